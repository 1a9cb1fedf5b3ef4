/- Texts PK PL, joined: what each part says stands ahead of it. -/
import Derived.Test.YtokepgnnepjiaaaGreatPH
import Derived.Test.YtokepgnnepjiaaaGreatGPe
import Derived.BigRegion
import Derived.Deep.RegionHeld
/- A process: sent, sends. -/
namespace Go.Proofs.YtokepgnnepjiaaaGreat
set_option maxRecDepth 100000
open Go.RowKit Lg Nl Go.Maps
set_option linter.unusedVariables false
set_option linter.unusedSimpArgs false

set_option maxHeartbeats 2000000 in
/-- process 1 feeds no delay -/
theorem sends1_c (p F q bN cN bE cE bP bT cT bI : Nat) (h d mk tm : Int) (ia : Option Addr) (ic : Nat) (vs vv : Value) (pp va : Option Addr) (vn vc : Nat) (w : World) (hp : w.heap[p]? = some (prC p F q d vs mk vv pp)) (hF : Fc1 h F bN cN bE cE bP bT cT bI ia ic w) :
    Calls Tryz.prog 45 #[.pointer (some ⟨p, 0, none⟩), .int .i64 tm, .slice va vn vc] w fun e w' => e = .returned (.tuple #[.slice none 0 0, .slice none 0 0]) ∧ w' = w := by
  obtain ⟨y0, y1, y2, y3, y4, y5, y6, y7⟩ := pr8 hp
  have f6 := hF.f6
  clear hF hp
  go_enter Tryz.func45, Tryz.ntmps45
  go_wp2_with fail
  go_loopw [21, 6, 7] (fun s21 s6 s7 W => s21 = .int .i64 0 ∧ s6 = .slice none 0 0 ∧ s7 = .slice none 0 0 ∧ Hid (W = w)) (fun s21 s6 s7 W => 0)
  case atStart => exact ⟨rfl, rfl, rfl, rfl⟩
  case round =>
    obtain ⟨rfl, rfl, rfl, HW⟩ := hrel
    rw [HW.out]
    go_wp2_with fail
    go_ret2
    exact ⟨rfl, rfl⟩
set_option maxHeartbeats 2000000 in
/-- what a delay of process 0 has sent, ahead of all -/
theorem sent0_new (p F q bN cN bE cE bP bT cT bI bL cL : Nat) (h mk : Int) (ia : Option Addr) (ic : Nat) (vs vv : Value) (pp : Option Addr) (w : World) (hp : w.heap[p]? = some (prC p F q (-1) vs mk vv pp)) (hF : Fc0 h F bN cN bE cE bP bT cT bI bL cL ia ic w) :
    Calls Tryz.prog 76 #[.pointer (some ⟨p, 0, none⟩), .agg #[.int .i64 1, .int .i64 0, .int .i64 2, .bool false]] w fun e w' => e = .returned (.string ⟨#[120]⟩) ∧ Below w.heap.size w w' := by
  have HB : Hid (Below w.heap.size w (w.alloc (.cells #[.int .i64 1, .int .i64 0, .int .i64 2, .bool false] 126))) := belA (Below.refl _ _) _
  obtain ⟨y0, y1, y2, y3, y4, y5, y6, y7⟩ := pr8 ((HB.out.block p (hLt hp)).trans hp)
  obtain ⟨f0, f1, f2, f3, f4, f5, f6, f7, n0, n1, n2, n3, n4, n5, n6, n7, _⟩ := hF.below HB.out
  have z0 : (w.alloc (.cells #[.int .i64 1, .int .i64 0, .int .i64 2, .bool false] 126)).cell? ⟨w.heap.size, 1, none⟩ = some (.int .i64 0) := by rw [Lib.cell_of_heap (alAt rfl)]; rfl
  have x2 := (pr8 hp).2.2.1
  have lp' := hLt hp
  clear hF hp
  go_enter Tryz.func76, Tryz.ntmps76
  go_wp2_with fail
  obtain ⟨W, hW⟩ : ∃ W, W = w.alloc (.cells #[.int .i64 1, .int .i64 0, .int .i64 2, .bool false] 126) := ⟨_, rfl⟩
  have HZ : Hid (w.heap.size < W.heap.size) := by rw [hW]; show w.heap.size < (w.heap.push _).size; simp
  rw [← hW] at HB y0 y1 y2 y3 y4 y5 y6 y7 f0 f1 f2 f3 f4 f5 f6 f7 n0 n1 n2 n3 n4 n5 n6 n7 z0 ⊢
  clear hW x2
  go_region_with (first | (go_at_call 72; refine (unk_c _ _ _ _ _ _ _ _ _ _).mono ?_; rintro e w5 ⟨rfl, hb5⟩))
  all_goals
    go_wp2_with fail
    go_ret
    exact ⟨rfl, Q.belW HB.out hb5⟩
set_option maxHeartbeats 2000000 in
/-- what a delay of process 0 has sent, behind a time -/
theorem sent0_old (p F q bV cV : Nat) (d mk : Int) (u : ByteArray) (vs : Value) (pp : Option Addr) (w : World) (hp : w.heap[p]? = some (prC p F q d vs mk (.slice (some ⟨bV, 0, none⟩) 1 cV) pp)) (hd : 0 ≤ d) (hV : w.cell? ⟨bV, 0, none⟩ = some (.string u)) :
    Calls Tryz.prog 76 #[.pointer (some ⟨p, 0, none⟩), .agg #[.int .i64 1, .int .i64 0, .int .i64 2, .bool false]] w fun e w' => e = .returned (.string u) ∧ Below w.heap.size w w' := by
  have HB : Hid (Below w.heap.size w (w.alloc (.cells #[.int .i64 1, .int .i64 0, .int .i64 2, .bool false] 126))) := belA (Below.refl _ _) _
  obtain ⟨y0, y1, y2, y3, y4, y5, y6, y7⟩ := pr8 ((HB.out.block p (hLt hp)).trans hp)
  have v0 := (HB.out.cell (p := ⟨bV, 0, none⟩) (World.block_lt_of_cell? w ⟨bV, 0, none⟩ hV)).trans hV
  have z0 : (w.alloc (.cells #[.int .i64 1, .int .i64 0, .int .i64 2, .bool false] 126)).cell? ⟨w.heap.size, 1, none⟩ = some (.int .i64 0) := by rw [Lib.cell_of_heap (alAt rfl)]; rfl
  have x2 := (pr8 hp).2.2.1
  have lp' := hLt hp
  clear hp
  go_enter Tryz.func76, Tryz.ntmps76
  go_wp2_with fail
  obtain ⟨W, hW⟩ : ∃ W, W = w.alloc (.cells #[.int .i64 1, .int .i64 0, .int .i64 2, .bool false] 126) := ⟨_, rfl⟩
  rw [← hW] at HB y0 y1 y2 y3 y4 y5 y6 y7 v0 z0 ⊢
  clear hW x2
  go_quiet (fail)
  go_wp2_with fail
  go_ret
  exact ⟨rfl, Q.belDN HB.out _⟩
set_option maxHeartbeats 2000000 in
/-- process 0 sends nothing where the value is what was sent -/
theorem sends0_same (p F q bN cN bE cE bP bT cT bI bL cL bW cW : Nat) (h d mk tm : Int) (v : ByteArray) (ia : Option Addr) (ic : Nat) (vs vv : Value) (pp : Option Addr) (w : World) (hp : w.heap[p]? = some (prC p F q d vs mk vv pp)) (hF : Fc0 h F bN cN bE cE bP bT cT bI bL cL ia ic w) (hW : w.cell? ⟨bW, 0, none⟩ = some (.string v)) (h0 : 0 ≤ tm) (h1 : tm ≤ 1000000)
    (hs : ∀ W, Below w.heap.size w W → Calls Tryz.prog 76 #[.pointer (some ⟨p, 0, none⟩), .agg #[.int .i64 1, .int .i64 0, .int .i64 2, .bool false]] W fun e w' => e = .returned (.string v) ∧ Below W.heap.size W w') :
    Calls Tryz.prog 45 #[.pointer (some ⟨p, 0, none⟩), .int .i64 tm, .slice (some ⟨bW, 0, none⟩) 1 cW] w fun e w' => e = .returned (.tuple #[.slice none 0 0, .slice none 0 0]) ∧ Below w.heap.size w w' := by
  have HS : Hid (∀ W, Below w.heap.size w W → Calls Tryz.prog 76 #[.pointer (some ⟨p, 0, none⟩), .agg #[.int .i64 1, .int .i64 0, .int .i64 2, .bool false]] W fun e w' => e = .returned (.string v) ∧ Below W.heap.size W w') := hs
  have HF : Hid (Fc0 h F bN cN bE cE bP bT cT bI bL cL ia ic w) := hF
  have HV : Hid (w.cell? ⟨bW, 0, none⟩ = some (.string v)) := hW
  obtain ⟨y0, y1, y2, y3, y4, y5, y6, y7⟩ := pr8 hp
  have f6 := hF.f6
  clear hF hp hs hW
  go_enter Tryz.func45, Tryz.ntmps45
  go_wp2_with fail
  go_loopw [21, 6, 7] (fun s21 s6 s7 W => ∃ (k : Int), (k = 0 ∨ k = 1) ∧ s21 = .int .i64 k ∧ s6 = .slice none 0 0 ∧ s7 = .slice none 0 0 ∧ Hid (Below w.heap.size w W)) (fun s21 s6 s7 W => 1 - (intOf s21).toNat)
  case atStart => exact ⟨0, Or.inl rfl, rfl, rfl, rfl, Below.refl _ _⟩
  case round =>
    obtain ⟨k, hk, rfl, rfl, rfl, HI⟩ := hrel
    rcases hk with rfl | rfl
    · have hF := HF.out.below HI.out
      have l0 := hF.l0
      have l1 := hF.l1
      have l2 := hF.l2
      have l3 := hF.l3
      have lL := World.block_lt_of_cell? wr ⟨bL, 0, none⟩ l0
      have v0 := (HI.out.cell (p := ⟨bW, 0, none⟩) (World.block_lt_of_cell? w ⟨bW, 0, none⟩ HV.out)).trans HV.out
      clear hF
      go_wp2_with fail
      have HY : Hid (Below w.heap.size w (wr.alloc (.cells #[.int .i64 1, .int .i64 0, .int .i64 2, .bool false] 126))) := belA HI.out _
      have v1 : (wr.alloc (.cells #[.int .i64 1, .int .i64 0, .int .i64 2, .bool false] 126)).cell? ⟨bW, 0, none⟩ = some (.string v) := (cellE (alOld (World.block_lt_of_cell? wr ⟨bW, 0, none⟩ v0))).trans v0
      have z0 : (wr.alloc (.cells #[.int .i64 1, .int .i64 0, .int .i64 2, .bool false] 126)).cell? ⟨wr.heap.size, 0, none⟩ = some (.int .i64 1) := by rw [Lib.cell_of_heap (alAt rfl)]; rfl
      have z1 : (wr.alloc (.cells #[.int .i64 1, .int .i64 0, .int .i64 2, .bool false] 126)).cell? ⟨wr.heap.size, 1, none⟩ = some (.int .i64 0) := by rw [Lib.cell_of_heap (alAt rfl)]; rfl
      have z2 : (wr.alloc (.cells #[.int .i64 1, .int .i64 0, .int .i64 2, .bool false] 126)).cell? ⟨wr.heap.size, 2, none⟩ = some (.int .i64 2) := by rw [Lib.cell_of_heap (alAt rfl)]; rfl
      have z3 : (wr.alloc (.cells #[.int .i64 1, .int .i64 0, .int .i64 2, .bool false] 126)).cell? ⟨wr.heap.size, 3, none⟩ = some (.bool false) := by rw [Lib.cell_of_heap (alAt rfl)]; rfl
      have zl : wr.heap.size < (wr.alloc (.cells #[.int .i64 1, .int .i64 0, .int .i64 2, .bool false] 126)).heap.size := by simp
      obtain ⟨W, hW⟩ : ∃ W, W = wr.alloc (.cells #[.int .i64 1, .int .i64 0, .int .i64 2, .bool false] 126) := ⟨_, rfl⟩
      rw [← hW] at HY v1 z0 z1 z2 z3 zl ⊢
      clear hW v0 l0 l1 l2 l3
      go_quiet (fail)
      have HY2 : Hid (∀ n, Below w.heap.size w (W.drewN n)) := Q.belDN HY.out
      go_wp2_with (first
        | (go_at_call 76; refine (HS.out _ (HY2.out _)).mono ?_; rintro e w5 ⟨rfl, hb5⟩))
      go_roundw
      case rel => exact ⟨1, Or.inr rfl, rfl, rfl, rfl, bel (HY2.out _) hb5⟩
      case measure => simp [intOf]
    · go_wp2_with fail
      go_ret2
      exact ⟨rfl, HI.out⟩
end Go.Proofs.YtokepgnnepjiaaaGreat

/- A process: sends. -/
namespace Go.Proofs.YtokepgnnepjiaaaGreat
set_option maxRecDepth 100000
open Go.RowKit Lg Nl Go.Maps
set_option linter.unusedVariables false
set_option linter.unusedSimpArgs false

/-- one event, in a row -/
structure E1 (B g : Nat) (t n : Int) (v : ByteArray) (fr sq : Int) (W : World) : Prop where
  ge : B ≤ g
  c0 : W.cell? ⟨g, 0, none⟩ = some (.int .i64 t)
  c1 : W.cell? ⟨g, 1, none⟩ = some (.int .i64 n)
  c2 : W.cell? ⟨g, 2, none⟩ = some (.string v)
  c3 : W.cell? ⟨g, 3, none⟩ = some (.int .i64 fr)
  c4 : W.cell? ⟨g, 4, none⟩ = some (.int .i64 sq)
  c5 : W.cell? ⟨g, 5, none⟩ = some (.bool false)
theorem E1.lt {B g : Nat} {t n fr sq : Int} {v : ByteArray} {W : World} (h : E1 B g t n v fr sq W) : g < W.heap.size := World.block_lt_of_cell? W ⟨g, 0, none⟩ h.c0
theorem E1.keep {B g : Nat} {t n fr sq : Int} {v : ByteArray} {W W' : World} (h : E1 B g t n v fr sq W) (e : W'.heap[g]? = W.heap[g]?) : E1 B g t n v fr sq W' := ⟨h.ge, (cellE e).trans h.c0, (cellE e).trans h.c1, (cellE e).trans h.c2, (cellE e).trans h.c3, (cellE e).trans h.c4, (cellE e).trans h.c5⟩
theorem E1.below {B g : Nat} {t n fr sq : Int} {v : ByteArray} {W W' : World} (h : E1 B g t n v fr sq W) (hb : Below W.heap.size W W') : E1 B g t n v fr sq W' := h.keep (hb.block g h.lt)
structure Eg (w : World) (t n : Int) (v : ByteArray) (fr sq : Int) (i : Int) (ao : Option Addr) (m cap : Nat) (W : World) : Prop where
  no : i ≤ 0 → ao = none ∧ m = 0 ∧ cap = 0
  yes : 0 < i → ∃ g, ao = some ⟨g, 0, none⟩ ∧ m = 1 ∧ E1 w.heap.size g t n v fr sq W
set_option maxHeartbeats 2000000 in
/-- process 0 sends where the value is another one -/
theorem sends0_diff (p F q bN cN bE cE bP bT cT bI bL cL bW cW : Nat) (h d mk tm : Int) (u v : ByteArray) (ia : Option Addr) (ic : Nat) (vs vv : Value) (pp : Option Addr) (w : World) (hp : w.heap[p]? = some (prC p F q d vs mk vv pp)) (hF : Fc0 h F bN cN bE cE bP bT cT bI bL cL ia ic w) (hW : w.cell? ⟨bW, 0, none⟩ = some (.string v)) (h0 : 0 ≤ tm) (h1 : tm ≤ 1000000) (m0 : 0 ≤ mk) (m1 : mk ≤ 1000000) (hne : (v.toList == u.toList) = false)
    (hs : ∀ W, Below w.heap.size w W → Calls Tryz.prog 76 #[.pointer (some ⟨p, 0, none⟩), .agg #[.int .i64 1, .int .i64 0, .int .i64 2, .bool false]] W fun e w' => e = .returned (.string u) ∧ Below W.heap.size W w') :
    Calls Tryz.prog 45 #[.pointer (some ⟨p, 0, none⟩), .int .i64 tm, .slice (some ⟨bW, 0, none⟩) 1 cW] w fun e w' => ∃ g c, e = .returned (.tuple #[.slice none 0 0, .slice (some ⟨g, 0, none⟩) 1 c]) ∧ Hid (E1 w.heap.size g (tm + 2) 1 v 0 (mk + 1) w') ∧ Below w.heap.size w w' := by
  have HS : Hid (∀ W, Below w.heap.size w W → Calls Tryz.prog 76 #[.pointer (some ⟨p, 0, none⟩), .agg #[.int .i64 1, .int .i64 0, .int .i64 2, .bool false]] W fun e w' => e = .returned (.string u) ∧ Below W.heap.size W w') := hs
  have HF : Hid (Fc0 h F bN cN bE cE bP bT cT bI bL cL ia ic w) := hF
  have HV : Hid (w.cell? ⟨bW, 0, none⟩ = some (.string v)) := hW
  obtain ⟨y0, y1, y2, y3, y4, y5, y6, y7⟩ := pr8 hp
  have f6 := hF.f6
  have HP : Hid (w.heap[p]? = some (prC p F q d vs mk vv pp)) := hp
  obtain ⟨j, hj⟩ := Q.infoEv
  have HJ : Hid (Tryz.prog.info? 39 = some j ∧ j.zero = some (Q.evG Q.Qu.ev0) ∧ j.size = 6 ∧ j.bytes = 56) := hj
  clear hj
  clear hF hp hs hW
  go_enter Tryz.func45, Tryz.ntmps45
  go_wp2_with fail
  go_loopw [21, 6, 7] (fun s21 s6 s7 W => ∃ (k : Int) (ao : Option Addr) (m cap : Nat), (k = 0 ∨ k = 1) ∧ s21 = .int .i64 k ∧ s6 = .slice none 0 0 ∧ s7 = .slice ao m cap ∧ Hid (Eg w (tm + 2) 1 v 0 (mk + 1) k ao m cap W) ∧ Hid (Below w.heap.size w W)) (fun s21 s6 s7 W => 1 - (intOf s21).toNat)
  case atStart => exact ⟨0, none, 0, 0, Or.inl rfl, rfl, rfl, rfl, ⟨fun _ => ⟨rfl, rfl, rfl⟩, fun h => absurd h (by decide)⟩, Below.refl _ _⟩
  case round =>
    obtain ⟨k, ao, m, cap, hk, rfl, rfl, rfl, HE, HI⟩ := hrel
    rcases hk with rfl | rfl
    · obtain ⟨rfl, rfl, rfl⟩ : ao = none ∧ m = 0 ∧ cap = 0 := HE.out.no (by decide)
      have hF := HF.out.below HI.out
      have l0 := hF.l0
      have l1 := hF.l1
      have l2 := hF.l2
      have l3 := hF.l3
      have lL := World.block_lt_of_cell? wr ⟨bL, 0, none⟩ l0
      have v0 := (HI.out.cell (p := ⟨bW, 0, none⟩) (World.block_lt_of_cell? w ⟨bW, 0, none⟩ HV.out)).trans HV.out
      clear hF
      go_wp2_with fail
      have HY : Hid (Below w.heap.size w (wr.alloc (.cells #[.int .i64 1, .int .i64 0, .int .i64 2, .bool false] 126))) := belA HI.out _
      have v1 : (wr.alloc (.cells #[.int .i64 1, .int .i64 0, .int .i64 2, .bool false] 126)).cell? ⟨bW, 0, none⟩ = some (.string v) := (cellE (alOld (World.block_lt_of_cell? wr ⟨bW, 0, none⟩ v0))).trans v0
      have z0 : (wr.alloc (.cells #[.int .i64 1, .int .i64 0, .int .i64 2, .bool false] 126)).cell? ⟨wr.heap.size, 0, none⟩ = some (.int .i64 1) := by rw [Lib.cell_of_heap (alAt rfl)]; rfl
      have z1 : (wr.alloc (.cells #[.int .i64 1, .int .i64 0, .int .i64 2, .bool false] 126)).cell? ⟨wr.heap.size, 1, none⟩ = some (.int .i64 0) := by rw [Lib.cell_of_heap (alAt rfl)]; rfl
      have z2 : (wr.alloc (.cells #[.int .i64 1, .int .i64 0, .int .i64 2, .bool false] 126)).cell? ⟨wr.heap.size, 2, none⟩ = some (.int .i64 2) := by rw [Lib.cell_of_heap (alAt rfl)]; rfl
      have z3 : (wr.alloc (.cells #[.int .i64 1, .int .i64 0, .int .i64 2, .bool false] 126)).cell? ⟨wr.heap.size, 3, none⟩ = some (.bool false) := by rw [Lib.cell_of_heap (alAt rfl)]; rfl
      have zl : wr.heap.size < (wr.alloc (.cells #[.int .i64 1, .int .i64 0, .int .i64 2, .bool false] 126)).heap.size := by simp
      obtain ⟨W, hW⟩ : ∃ W, W = wr.alloc (.cells #[.int .i64 1, .int .i64 0, .int .i64 2, .bool false] 126) := ⟨_, rfl⟩
      rw [← hW] at HY v1 z0 z1 z2 z3 zl ⊢
      clear hW v0 l0 l1 l2 l3
      go_quiet (fail)
      have HY2 : Hid (∀ n, Below w.heap.size w (W.drewN n)) := Q.belDN HY.out
      go_wp2_with (first
        | (go_at_call 76; refine (HS.out _ (HY2.out _)).mono ?_; rintro e w5 ⟨rfl, hb5⟩))
      have HB5 : Hid (Below w.heap.size w w5) := bel (HY2.out _) hb5
      obtain ⟨y0, y1, y2, y3, y4, y5, y6, y7⟩ := pr8 ((HB5.out.block p (hLt HP.out)).trans HP.out)
      have f0 := (HF.out.below HB5.out).f0
      have q0 : w5.cell? ⟨wr.heap.size, 0, none⟩ = some (.int .i64 1) := (hb5.cell (p := ⟨wr.heap.size, 0, none⟩) zl).trans z0
      have q3 : w5.cell? ⟨wr.heap.size, 3, none⟩ = some (.bool false) := (hb5.cell (p := ⟨wr.heap.size, 3, none⟩) zl).trans z3
      have ql : wr.heap.size < w5.heap.size := Nat.lt_of_lt_of_le zl hb5.size
      clear z0 z1 z2 z3 zl HY HY2 hb5 v1
      clear y0 y2 y3 y5 y6 y7 hne
      have lF := World.block_lt_of_cell? w5 ⟨F, 0, none⟩ f0
      have lp := World.block_lt_of_cell? w5 ⟨p, 1, none⟩ y1
      go_big_region
      go_wp2_with (first
        | (at_builtin; refine wpList_append_own_at _ rfl _ _ 22 rfl w.heap.size 39 j _ 6 56 Tryz.underlying22 HJ.out.1 HJ.out.2.1 HJ.out.2.2.1 HJ.out.2.2.2 rfl (by decide) _ 0 [] rfl (World.ownsRow_nil _ _ _ _) ⟨w5.heap.size + 1, 0, none⟩ 1 1 [.int .i64 (tm + 2), .int .i64 1, .string v, .int .i64 0, .int .i64 (mk + 1), .bool false] rfl rfl (fun j u hj => Q.new6 _ ⟨tm + 2, 1, v, 0, mk + 1, false⟩ 39 _ (by simp) j u hj) (by intro u hu; simp at hu; rcases hu with rfl | rfl | rfl | rfl | rfl | rfl <;> rfl) (by unfold maxLen; omega) (by omega) (by have := HB5.out.size; simp; omega) ?_; intro v9 w9 hown9 hgrow9 hnil9 hloc9))
      obtain ⟨g, cap, rfl⟩ : ∃ g cap, v9 = .slice (some ⟨g, 0, none⟩) 1 cap := own_slice1 hown9
      have hl9 := World.ownsRow.lt hown9
      go_roundw
      case rel => exact ⟨1, some ⟨g, 0, none⟩, 1, cap, Or.inr rfl, rfl, rfl, rfl, ⟨fun h => absurd h (by decide), fun _ => ⟨g, rfl, rfl, ⟨(hl9 g rfl).1, by rw [hown9.cellAt 0 (by omega)]; rfl, by rw [hown9.cellAt 1 (by omega)]; rfl, by rw [hown9.cellAt 2 (by omega)]; rfl, by rw [hown9.cellAt 3 (by omega)]; rfl, by rw [hown9.cellAt 4 (by omega)]; rfl, by rw [hown9.cellAt 5 (by omega)]; rfl⟩⟩⟩, belG (belA (belA HB5.out _) _).drew hgrow9 (by simp [Act.eval, Value.ownBlock])⟩
      case measure => simp [intOf]
    · obtain ⟨g, rfl, rfl, he⟩ := HE.out.yes (by decide)
      go_wp2_with fail
      go_ret2
      exact ⟨g, cap, rfl, he, HI.out⟩
end Go.Proofs.YtokepgnnepjiaaaGreat
