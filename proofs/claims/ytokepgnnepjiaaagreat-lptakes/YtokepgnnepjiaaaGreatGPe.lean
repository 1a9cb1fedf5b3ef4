/- Texts PF PG PI, joined: what each part says stands ahead of it. -/
import Derived.Test.YtokepgnnepjiaaaGreatGPd
/- A process: changes, with. -/
namespace Go.Proofs.YtokepgnnepjiaaaGreat
set_option maxRecDepth 100000
open Go.RowKit Lg Nl Go.Maps
set_option linter.unusedVariables false
set_option linter.unusedSimpArgs false

theorem infoCh : ∃ i, Tryz.prog.info? 74 = some i ∧ i.zero = some (.agg #[.int .i64 0, .int .i64 0, .string ⟨#[]⟩]) ∧ i.size = 3 ∧ i.bytes = 32 := Q.info_parts (by kernel_rfl)
/-- one change, in a row -/
structure C1 (B g : Nat) (t n : Int) (v : ByteArray) (W : World) : Prop where
  ge : B ≤ g
  c0 : W.cell? ⟨g, 0, none⟩ = some (.int .i64 t)
  c1 : W.cell? ⟨g, 1, none⟩ = some (.int .i64 n)
  c2 : W.cell? ⟨g, 2, none⟩ = some (.string v)
theorem C1.lt {B g : Nat} {t n : Int} {v : ByteArray} {W : World} (h : C1 B g t n v W) : g < W.heap.size := World.block_lt_of_cell? W ⟨g, 0, none⟩ h.c0
theorem C1.keep {B g : Nat} {t n : Int} {v : ByteArray} {W W' : World} (h : C1 B g t n v W) (e : W'.heap[g]? = W.heap[g]?) : C1 B g t n v W' := ⟨h.ge, (cellE e).trans h.c0, (cellE e).trans h.c1, (cellE e).trans h.c2⟩
theorem C1.below {B g : Nat} {t n : Int} {v : ByteArray} {W W' : World} (h : C1 B g t n v W) (hb : Below W.heap.size W W') : C1 B g t n v W' := h.keep (hb.block g h.lt)
theorem new3 (w : World) (a b c : Value) (t : TypeId) (n : Nat) (hn : w.heap.size = n) (j : Nat) (u : Value) (h : [a, b, c][j]? = some u) : (w.alloc (.cells #[a, b, c] t)).cell? ((⟨n, 0, none⟩ : Addr).add j) = some u := by
  have e1 : ((⟨n, 0, none⟩ : Addr).add j) = ⟨n, j, none⟩ := by simp [Addr.add]; intro h; exact h.symm
  rw [e1, Lib.cell_of_heap (alAt hn)]
  simpa using h
set_option maxHeartbeats 4000000 in
theorem changes0_same (F bN cN bE cE bP bT cT bI bL cL : Nat) (h tm : Int) (ia : Option Addr) (ic bA cA bV cV : Nat) (v : ByteArray) (w : World) (hF : Fc0 h F bN cN bE cE bP bT cT bI bL cL ia ic w) (hA : w.cell? ⟨bA, 0, none⟩ = some (.string v)) (hV : w.cell? ⟨bV, 0, none⟩ = some (.string v)) :
    Calls Tryz.prog 49 #[.pointer (some ⟨F, 0, none⟩), .int .i64 tm, .slice (some ⟨bA, 0, none⟩) 1 cA, .slice (some ⟨bV, 0, none⟩) 1 cV] w fun e w' => e = .returned (.slice none 0 0) ∧ Below w.heap.size w w' := by
  have HF : Hid (Fc0 h F bN cN bE cE bP bT cT bI bL cL ia ic w ∧ w.cell? ⟨bA, 0, none⟩ = some (.string v) ∧ w.cell? ⟨bV, 0, none⟩ = some (.string v)) := ⟨hF, hA, hV⟩
  have f5 := hF.f5
  clear hF hA hV
  go_enter Tryz.func49, Tryz.ntmps49
  go_wp2_with fail
  go_loopw [17, 9] (fun s17 s9 W => ∃ (k : Int), (k = 0 ∨ k = 1 ∨ k = 2) ∧ s17 = .int .i64 k ∧ s9 = .slice none 0 0 ∧ Hid (Below w.heap.size w W)) (fun s17 s9 W => 2 - (intOf s17).toNat)
  case atStart => exact ⟨0, Or.inl rfl, rfl, rfl, Below.refl _ _⟩
  case round =>
    obtain ⟨k, hk, rfl, rfl, HI⟩ := hrel
    obtain ⟨hF, hA, hV⟩ := HF.out
    have hA' := (HI.out.cell (p := ⟨bA, 0, none⟩) (World.block_lt_of_cell? w ⟨bA, 0, none⟩ hA)).trans hA
    have hV' := (HI.out.cell (p := ⟨bV, 0, none⟩) (World.block_lt_of_cell? w ⟨bV, 0, none⟩ hV)).trans hV
    have t0 := (hF.below HI.out).t0
    have t1 := (hF.below HI.out).t1
    clear hA hV hF
    rcases hk with rfl | rfl | rfl
    · go_wp2_with fail
      go_quiet (fail)
      go_wp2_with fail
      go_roundw
      case rel => exact ⟨1, by omega, rfl, rfl, Q.belDN HI.out _⟩
      case measure => simp [intOf]
    · go_wp2_with fail
      go_quiet (fail)
      go_wp2_with fail
      go_roundw
      case rel => exact ⟨2, by omega, rfl, rfl, Q.belDN HI.out _⟩
      case measure => simp [intOf]
    · go_wp2_with fail
      go_ret
      exact ⟨rfl, HI.out⟩
set_option maxHeartbeats 4000000 in
theorem changes1_same (F bN cN bE cE bP bT cT bI : Nat) (h tm : Int) (ia : Option Addr) (ic bA cA bV cV : Nat) (v : ByteArray) (w : World) (hF : Fc1 h F bN cN bE cE bP bT cT bI ia ic w) (hA : w.cell? ⟨bA, 0, none⟩ = some (.string v)) (hV : w.cell? ⟨bV, 0, none⟩ = some (.string v)) :
    Calls Tryz.prog 49 #[.pointer (some ⟨F, 0, none⟩), .int .i64 tm, .slice (some ⟨bA, 0, none⟩) 1 cA, .slice (some ⟨bV, 0, none⟩) 1 cV] w fun e w' => e = .returned (.slice none 0 0) ∧ Below w.heap.size w w' := by
  have HF : Hid (Fc1 h F bN cN bE cE bP bT cT bI ia ic w ∧ w.cell? ⟨bA, 0, none⟩ = some (.string v) ∧ w.cell? ⟨bV, 0, none⟩ = some (.string v)) := ⟨hF, hA, hV⟩
  have f5 := hF.f5
  clear hF hA hV
  go_enter Tryz.func49, Tryz.ntmps49
  go_wp2_with fail
  go_loopw [17, 9] (fun s17 s9 W => ∃ (k : Int), (k = 0 ∨ k = 1 ∨ k = 2) ∧ s17 = .int .i64 k ∧ s9 = .slice none 0 0 ∧ Hid (Below w.heap.size w W)) (fun s17 s9 W => 2 - (intOf s17).toNat)
  case atStart => exact ⟨0, Or.inl rfl, rfl, rfl, Below.refl _ _⟩
  case round =>
    obtain ⟨k, hk, rfl, rfl, HI⟩ := hrel
    obtain ⟨hF, hA, hV⟩ := HF.out
    have hA' := (HI.out.cell (p := ⟨bA, 0, none⟩) (World.block_lt_of_cell? w ⟨bA, 0, none⟩ hA)).trans hA
    have hV' := (HI.out.cell (p := ⟨bV, 0, none⟩) (World.block_lt_of_cell? w ⟨bV, 0, none⟩ hV)).trans hV
    have t0 := (hF.below HI.out).t0
    have t1 := (hF.below HI.out).t1
    clear hA hV hF
    rcases hk with rfl | rfl | rfl
    · go_wp2_with fail
      go_quiet (fail)
      go_wp2_with fail
      go_roundw
      case rel => exact ⟨1, by omega, rfl, rfl, Q.belDN HI.out _⟩
      case measure => simp [intOf]
    · go_wp2_with fail
      go_quiet (fail)
      go_wp2_with fail
      go_roundw
      case rel => exact ⟨2, by omega, rfl, rfl, Q.belDN HI.out _⟩
      case measure => simp [intOf]
    · go_wp2_with fail
      go_ret
      exact ⟨rfl, HI.out⟩
end Go.Proofs.YtokepgnnepjiaaaGreat

/- A process: changes where the value is another one; with. -/
namespace Go.Proofs.YtokepgnnepjiaaaGreat
set_option maxRecDepth 100000
open Go.RowKit Lg Nl Go.Maps
set_option linter.unusedVariables false
set_option linter.unusedSimpArgs false

/-- the list of changes, up to a net -/
structure Cg (w : World) (k : Int) (t n : Int) (v : ByteArray) (i : Int) (ao : Option Addr) (m cap : Nat) (W : World) : Prop where
  no : i ≤ k → ao = none ∧ m = 0 ∧ cap = 0
  yes : k < i → ∃ g, ao = some ⟨g, 0, none⟩ ∧ m = 1 ∧ C1 w.heap.size g t n v W
theorem Cg.drew {w W : World} {k t n i : Int} {v : ByteArray} {ao : Option Addr} {m cap : Nat} (h : Cg w k t n v i ao m cap W) (z : Nat) : Cg w k t n v i ao m cap (W.drewN z) :=
  ⟨h.no, fun hk => by obtain ⟨g, a, b, c⟩ := h.yes hk; exact ⟨g, a, b, c.keep rfl⟩⟩
set_option maxHeartbeats 4000000 in
theorem changes0_diff (F bN cN bE cE bP bT cT bI bL cL : Nat) (h tm : Int) (ia : Option Addr) (ic bA cA bV cV : Nat) (u v : ByteArray) (w : World) (hF : Fc0 h F bN cN bE cE bP bT cT bI bL cL ia ic w) (hA : w.cell? ⟨bA, 0, none⟩ = some (.string u)) (hV : w.cell? ⟨bV, 0, none⟩ = some (.string v)) (hne : (v.toList == u.toList) = false) :
    Calls Tryz.prog 49 #[.pointer (some ⟨F, 0, none⟩), .int .i64 tm, .slice (some ⟨bA, 0, none⟩) 1 cA, .slice (some ⟨bV, 0, none⟩) 1 cV] w fun e w' => ∃ g c, e = .returned (.slice (some ⟨g, 0, none⟩) 1 c) ∧ Hid (C1 w.heap.size g tm 0 v w') ∧ Below w.heap.size w w' := by
  have HF : Hid (Fc0 h F bN cN bE cE bP bT cT bI bL cL ia ic w ∧ w.cell? ⟨bA, 0, none⟩ = some (.string u) ∧ w.cell? ⟨bV, 0, none⟩ = some (.string v)) := ⟨hF, hA, hV⟩
  have f5 := hF.f5
  clear hF hA hV
  obtain ⟨j, h1, h2, h3, h4⟩ := infoCh
  go_enter Tryz.func49, Tryz.ntmps49
  go_wp2_with fail
  go_loopw [17, 9] (fun s17 s9 W => ∃ (i : Int) (ao : Option Addr) (m cap : Nat), (i = 0 ∨ i = 1 ∨ i = 2) ∧ s17 = .int .i64 i ∧ s9 = .slice ao m cap ∧ Hid (Cg w 0 tm 0 v i ao m cap W) ∧ Hid (Below w.heap.size w W)) (fun s17 s9 W => 2 - (intOf s17).toNat)
  case atStart => exact ⟨0, none, 0, 0, Or.inl rfl, rfl, rfl, ⟨fun _ => ⟨rfl, rfl, rfl⟩, fun h => absurd h (by decide)⟩, Below.refl _ _⟩
  case round =>
    obtain ⟨i, ao, m, cap, hk, rfl, rfl, HC, HI⟩ := hrel
    obtain ⟨hF, hA, hV⟩ := HF.out
    have hA' := (HI.out.cell (p := ⟨bA, 0, none⟩) (World.block_lt_of_cell? w ⟨bA, 0, none⟩ hA)).trans hA
    have hV' := (HI.out.cell (p := ⟨bV, 0, none⟩) (World.block_lt_of_cell? w ⟨bV, 0, none⟩ hV)).trans hV
    have t0 := (hF.below HI.out).t0
    have t1 := (hF.below HI.out).t1
    clear hA hV hF
    rcases hk with rfl | rfl | rfl
    · obtain ⟨rfl, rfl, rfl⟩ : ao = none ∧ m = 0 ∧ cap = 0 := HC.out.no (by decide)
      have lV := World.block_lt_of_cell? wr ⟨bV, 0, none⟩ hV'
      go_wp2_with fail
      go_quiet (fail)
      have HI2 : Hid (∀ n, Below w.heap.size w (wr.drewN n)) := Q.belDN HI.out
      go_wp2_with (first
        | (at_builtin; refine wpList_append_own_at _ rfl _ _ 47 rfl w.heap.size 74 j _ 3 32 Tryz.underlying47 h1 h2 h3 h4 rfl (by decide) _ 0 [] rfl (World.ownsRow_nil _ _ _ _) ⟨wr.heap.size, 0, none⟩ 1 1 [.int .i64 tm, .int .i64 0, .string v] rfl rfl (fun j u hj => new3 (wr.drewN _) _ _ _ _ _ rfl j u hj) (by intro u hu; simp at hu; rcases hu with rfl | rfl | rfl <;> rfl) (by unfold maxLen; omega) (by omega) (Nat.le_trans HI.out.size (by simp)) ?_; intro v9 w9 hown9 hgrow9 hnil9 hloc9))
      obtain ⟨g, cap, rfl⟩ : ∃ g cap, v9 = .slice (some ⟨g, 0, none⟩) 1 cap := own_slice1 hown9
      have hl9 := World.ownsRow.lt hown9
      go_roundw
      case rel => exact ⟨1, some ⟨g, 0, none⟩, 1, cap, by omega, rfl, rfl, ⟨fun h => absurd h (by decide), fun _ => ⟨g, rfl, rfl, ⟨(hl9 g rfl).1, by rw [hown9.cellAt 0 (by omega)]; rfl, by rw [hown9.cellAt 1 (by omega)]; rfl, by rw [hown9.cellAt 2 (by omega)]; rfl⟩⟩⟩, belG (belA (HI2.out _) _) hgrow9 (by simp [Act.eval, Value.ownBlock])⟩
      case measure => simp [intOf]
    · go_wp2_with fail
      go_quiet (fail)
      go_wp2_with fail
      go_roundw
      case rel => exact ⟨2, ao, m, cap, by omega, rfl, rfl, ⟨fun h => absurd h (by decide), fun _ => by obtain ⟨g, a, b, c⟩ := HC.out.yes (by decide); exact ⟨g, a, b, c.keep rfl⟩⟩, Q.belDN HI.out _⟩
      case measure => simp [intOf]
    · go_wp2_with fail
      obtain ⟨g, rfl, rfl, hc⟩ := HC.out.yes (by decide)
      go_ret
      exact ⟨g, cap, rfl, hc, HI.out⟩
set_option maxHeartbeats 4000000 in
theorem changes1_diff (F bN cN bE cE bP bT cT bI : Nat) (h tm : Int) (ia : Option Addr) (ic bA cA bV cV : Nat) (u v : ByteArray) (w : World) (hF : Fc1 h F bN cN bE cE bP bT cT bI ia ic w) (hA : w.cell? ⟨bA, 0, none⟩ = some (.string u)) (hV : w.cell? ⟨bV, 0, none⟩ = some (.string v)) (hne : (v.toList == u.toList) = false) :
    Calls Tryz.prog 49 #[.pointer (some ⟨F, 0, none⟩), .int .i64 tm, .slice (some ⟨bA, 0, none⟩) 1 cA, .slice (some ⟨bV, 0, none⟩) 1 cV] w fun e w' => ∃ g c, e = .returned (.slice (some ⟨g, 0, none⟩) 1 c) ∧ Hid (C1 w.heap.size g tm 1 v w') ∧ Below w.heap.size w w' := by
  have HF : Hid (Fc1 h F bN cN bE cE bP bT cT bI ia ic w ∧ w.cell? ⟨bA, 0, none⟩ = some (.string u) ∧ w.cell? ⟨bV, 0, none⟩ = some (.string v)) := ⟨hF, hA, hV⟩
  have f5 := hF.f5
  clear hF hA hV
  obtain ⟨j, h1, h2, h3, h4⟩ := infoCh
  go_enter Tryz.func49, Tryz.ntmps49
  go_wp2_with fail
  go_loopw [17, 9] (fun s17 s9 W => ∃ (i : Int) (ao : Option Addr) (m cap : Nat), (i = 0 ∨ i = 1 ∨ i = 2) ∧ s17 = .int .i64 i ∧ s9 = .slice ao m cap ∧ Hid (Cg w 1 tm 1 v i ao m cap W) ∧ Hid (Below w.heap.size w W)) (fun s17 s9 W => 2 - (intOf s17).toNat)
  case atStart => exact ⟨0, none, 0, 0, Or.inl rfl, rfl, rfl, ⟨fun _ => ⟨rfl, rfl, rfl⟩, fun h => absurd h (by decide)⟩, Below.refl _ _⟩
  case round =>
    obtain ⟨i, ao, m, cap, hk, rfl, rfl, HC, HI⟩ := hrel
    obtain ⟨hF, hA, hV⟩ := HF.out
    have hA' := (HI.out.cell (p := ⟨bA, 0, none⟩) (World.block_lt_of_cell? w ⟨bA, 0, none⟩ hA)).trans hA
    have hV' := (HI.out.cell (p := ⟨bV, 0, none⟩) (World.block_lt_of_cell? w ⟨bV, 0, none⟩ hV)).trans hV
    have t0 := (hF.below HI.out).t0
    have t1 := (hF.below HI.out).t1
    clear hA hV hF
    rcases hk with rfl | rfl | rfl
    · obtain ⟨rfl, rfl, rfl⟩ : ao = none ∧ m = 0 ∧ cap = 0 := HC.out.no (by decide)
      go_wp2_with fail
      go_quiet (fail)
      go_wp2_with fail
      go_roundw
      case rel => exact ⟨1, none, 0, 0, by omega, rfl, rfl, ⟨fun _ => ⟨rfl, rfl, rfl⟩, fun h => absurd h (by decide)⟩, Q.belDN HI.out _⟩
      case measure => simp [intOf]
    · obtain ⟨rfl, rfl, rfl⟩ : ao = none ∧ m = 0 ∧ cap = 0 := HC.out.no (by decide)
      have lV := World.block_lt_of_cell? wr ⟨bV, 0, none⟩ hV'
      go_wp2_with fail
      go_quiet (fail)
      have HI2 : Hid (∀ n, Below w.heap.size w (wr.drewN n)) := Q.belDN HI.out
      go_wp2_with (first
        | (at_builtin; refine wpList_append_own_at _ rfl _ _ 47 rfl w.heap.size 74 j _ 3 32 Tryz.underlying47 h1 h2 h3 h4 rfl (by decide) _ 0 [] rfl (World.ownsRow_nil _ _ _ _) ⟨wr.heap.size, 0, none⟩ 1 1 [.int .i64 tm, .int .i64 1, .string v] rfl rfl (fun j u hj => new3 (wr.drewN _) _ _ _ _ _ rfl j u hj) (by intro u hu; simp at hu; rcases hu with rfl | rfl | rfl <;> rfl) (by unfold maxLen; omega) (by omega) (Nat.le_trans HI.out.size (by simp)) ?_; intro v9 w9 hown9 hgrow9 hnil9 hloc9))
      obtain ⟨g, cap, rfl⟩ : ∃ g cap, v9 = .slice (some ⟨g, 0, none⟩) 1 cap := own_slice1 hown9
      have hl9 := World.ownsRow.lt hown9
      go_roundw
      case rel => exact ⟨2, some ⟨g, 0, none⟩, 1, cap, by omega, rfl, rfl, ⟨fun h => absurd h (by decide), fun _ => ⟨g, rfl, rfl, ⟨(hl9 g rfl).1, by rw [hown9.cellAt 0 (by omega)]; rfl, by rw [hown9.cellAt 1 (by omega)]; rfl, by rw [hown9.cellAt 2 (by omega)]; rfl⟩⟩⟩, belG (belA (HI2.out _) _) hgrow9 (by simp [Act.eval, Value.ownBlock])⟩
      case measure => simp [intOf]
    · go_wp2_with fail
      obtain ⟨g, rfl, rfl, hc⟩ := HC.out.yes (by decide)
      go_ret
      exact ⟨g, cap, rfl, hc, HI.out⟩
set_option maxHeartbeats 400000 in
theorem with_nil (p : Option Addr) (w : World) : Calls Tryz.prog 48 #[.pointer p, .slice none 0 0] w fun e w' => e = .returned (.pointer p) ∧ w' = w := by
  go_enter Tryz.func48, Tryz.ntmps48
  go_wp2
  go_ret
  exact ⟨rfl, rfl⟩
set_option maxHeartbeats 400000 in
theorem with_one (p ao : Option Addr) (c : Nat) (w : World) : Calls Tryz.prog 48 #[.pointer p, .slice ao 1 c] w fun e w' => e = .returned (.pointer (some ⟨w.heap.size, 0, none⟩)) ∧ w' = w.alloc (.cells #[.pointer p, .slice ao 1 c] 108) := by
  go_enter Tryz.func48, Tryz.ntmps48
  go_wp2
  go_ret
  exact ⟨rfl, rfl⟩
end Go.Proofs.YtokepgnnepjiaaaGreat

/- A process: what its node gets. -/
namespace Go.Proofs.YtokepgnnepjiaaaGreat
set_option maxRecDepth 100000
open Go.RowKit Lg Nl Go.Maps
set_option linter.unusedVariables false
set_option linter.unusedSimpArgs false

theorem infoGot : ∃ i, Tryz.prog.info? 132 = some i ∧ i.zero = some (.agg #[.int .i64 0, .string ⟨#[]⟩]) ∧ i.size = 2 ∧ i.bytes = 24 := Q.info_parts (by kernel_rfl)
theorem new2 (w : World) (a b : Value) (t : TypeId) (n : Nat) (hn : w.heap.size = n) (j : Nat) (u : Value) (h : [a, b][j]? = some u) : (w.alloc (.cells #[a, b] t)).cell? ((⟨n, 0, none⟩ : Addr).add j) = some u := by
  have e1 : ((⟨n, 0, none⟩ : Addr).add j) = ⟨n, j, none⟩ := by simp [Addr.add]; intro h; exact h.symm
  rw [e1, Lib.cell_of_heap (alAt hn)]
  simpa using h
/-- what an append of one element onto a row of its own does, at any world -/
theorem appX {B t e z by_ n : Nat} {zv : Value} (hz : ∃ i, Tryz.prog.info? e = some i ∧ i.zero = some zv ∧ i.size = z ∧ i.bytes = by_) (ht : Tryz.prog.underlying t = some (.slice e)) (hzc : zv.cells.size = z) (hz0 : 0 < z) {X : World} {v : Value} {xs news : List Value} (h : X.ownsRow B e z v n xs) (a : Nat) (hnl : news.length = 1 * z) (hc : ∀ j u, news[j]? = some u → X.cell? ((⟨a, 0, none⟩ : Addr).add j) = some u) (h1c : ∀ u ∈ news, u.oneCell' = true) (hn : n ≤ 1000000) (hby : by_ ≤ 64) (hB : B ≤ X.heap.size) :
    ∃ g' cap' W', (∀ ty, (Builtin.append_ #[t, t] ty #[v, .slice (some ⟨a, 0, none⟩) 1 1]).run Tryz.prog X = .ok (.slice (some ⟨g', 0, none⟩) (n + 1) cap') W') ∧ Hid (W'.ownsRow B e z (.slice (some ⟨g', 0, none⟩) (n + 1) cap') (n + 1) (xs ++ news)) ∧ Hid (X.grownBy W' v.ownBlock) ∧ Hid (some g' = v.ownBlock ∨ g' = X.heap.size) := by
  obtain ⟨i, h1, h2, h3, h4⟩ := hz
  have hmul : (n + 1) * by_ ≤ (n + 1) * 64 := Nat.mul_le_mul_left _ hby
  have run := fun ty => run_append_own_at (P := Tryz.prog) X B t ty e i zv z by_ ht h1 h2 h3 h4 hzc hz0 v n xs h ⟨a, 0, none⟩ 1 1 news hnl hc h1c (by unfold maxLen; omega) (by omega) hB
  obtain ⟨v', W', r1, r2, r3, _, r5⟩ := run 3
  obtain ⟨g', cap', rfl⟩ := own_slice1 r2
  refine ⟨g', cap', W', fun ty => r1, r2, r3, ?_⟩
  rcases r5 with e | e
  · exact Or.inl e
  · right; injection e
def gotC (vs : List ByteArray) : List Value := vs.flatMap fun v => [.int .i64 0, .string v]
theorem gotC_app (a b : List ByteArray) : gotC (a ++ b) = gotC a ++ gotC b := by unfold gotC; rw [List.flatMap_append]
theorem gotC_at (vs : List ByteArray) : ∀ i (h : i < vs.length), (gotC vs)[i * 2]? = some (.int .i64 0) ∧ (gotC vs)[i * 2 + 1]? = some (.string vs[i]) := by
  induction vs with
  | nil => intro i h; cases h
  | cons v vs ih =>
    intro i h
    match i, h with
    | 0, h => exact ⟨rfl, rfl⟩
    | i + 1, h =>
      have := ih i (by simpa using h)
      have e1 : (i + 1) * 2 = i * 2 + 1 + 1 := by omega
      rw [e1]
      exact this
/-- the list of what is got, as it grows -/
structure Gl (B : Nat) (v : Value) (vs : List ByteArray) (W : World) : Prop where
  o : W.ownsRow B 132 2 v vs.length (gotC vs)
theorem Gl.keep {B : Nat} {v : Value} {vs : List ByteArray} {W W' : World} (h : Gl B v vs W) (hb : ∀ k, v.ownBlock = some k → W'.heap[k]? = W.heap[k]?) : Gl B v vs W' := ⟨Q.own_at h.o hb⟩
theorem Gl.lt {B : Nat} {v : Value} {vs : List ByteArray} {W : World} (h : Gl B v vs W) : ∀ k, v.ownBlock = some k → B ≤ k ∧ k < W.heap.size := World.ownsRow.lt h.o
theorem Gl.gots {B n cap : Nat} {ao : Option Addr} {vs : List ByteArray} {W : World} (h : Gl B (.slice ao n cap) vs W) : GotsAt W ao vs := by
  rcases h.o.2 with ⟨e, z⟩ | ⟨g', cap', cur, a, _⟩
  · left; exact List.eq_nil_of_length_eq_zero z
  · injection a with a b c
    subst a b
    right
    refine ⟨g', rfl, fun i hi => ?_⟩
    have h' := h.o
    have gl : (gotC vs).length = vs.length * 2 := h'.1
    exact ⟨by rw [h'.cellAt (i * 2) (by omega)]; exact (gotC_at vs i hi).1, by rw [h'.cellAt (i * 2 + 1) (by omega)]; exact (gotC_at vs i hi).2⟩
end Go.Proofs.YtokepgnnepjiaaaGreat
