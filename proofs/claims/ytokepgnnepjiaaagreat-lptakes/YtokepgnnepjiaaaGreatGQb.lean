/- Texts QI QJ QK QL, joined: what each part says stands ahead of it. -/
import Derived.Test.YtokepgnnepjiaaaGreatQD
import Derived.Test.YtokepgnnepjiaaaGreatGPe
import Derived.Shelf.Spec.SlicesGrow
import Derived.Test.YtokepgnnepjiaaaGreatPH
import Derived.Test.YtokepgnnepjiaaaGreatGQa
/- Take of a time that is gone through. -/
namespace Go.Proofs.YtokepgnnepjiaaaGreat
set_option maxRecDepth 100000
open Go.RowKit Lg Nl Go.Maps
set_option linter.unusedVariables false
set_option linter.unusedSimpArgs false

set_option maxHeartbeats 4000000 in
theorem take1_late (B p q : Nat) (hz d : Int) (v : ByteArray) (l : List Q.Qu.Ev) (pp : Option Addr) (F bN cN bE cE bP bT cT bI : Nat) (ia : Option Addr) (ic bV cV : Nat) (vq : Value) (t sq : Int) (ev : ByteArray) (an : Bool) (w : World) (h : U1 B p q hz d v l pp F bN cN bE cE bP bT cT bI ia ic bV cV vq w) (hv : ev.size = 1) (hc : chkE (L ev) = 0) (ht : t ≤ d) :
    Calls Tryz.prog 9 #[.pointer (some ⟨p, 0, none⟩), .agg #[.int .i64 t, .int .i64 1, .string ev, .int .i64 0, .int .i64 sq, .bool an]] w fun e w' => e = .returned (.int .i64 5) ∧ Below w.heap.size w w' := by
  obtain ⟨W, hW⟩ : ∃ W, W = w.alloc (.cells #[.int .i64 t, .int .i64 1, .string ev, .int .i64 0, .int .i64 sq, .bool an] 39) := ⟨_, rfl⟩
  have HB : Hid (Below w.heap.size w W) := by rw [hW]; exact belA (Below.refl _ _) _
  have hx : W.heap[w.heap.size]? = some (.cells #[.int .i64 t, .int .i64 1, .string ev, .int .i64 0, .int .i64 sq, .bool an] 39 (0, 0)) := by rw [hW]; exact alAt rfl
  have HX : Hid (W.heap[w.heap.size]? = some (.cells #[.int .i64 t, .int .i64 1, .string ev, .int .i64 0, .int .i64 sq, .bool an] 39 (0, 0))) := hx
  obtain ⟨⟨x0, x1, x2, x3, x4, x5⟩, _⟩ := Q.cell6 hx
  have lx := hLt hx
  have hpW := (HB.out.block p (hLt h.pb)).trans h.pb
  have HPW : Hid (W.heap[p]? = some (prC p F q d (.slice none 0 0) 0 (.slice (some ⟨bV, 0, none⟩) 1 cV) pp)) := hpW
  obtain ⟨y0, y1, y2, y3, y4, y5, y6, y7⟩ := pr8 hpW
  have lp := hLt hpW
  have HG : Hid (Calls Tryz.prog 22 #[.pointer (some ⟨p, 0, none⟩)] W.drew fun e w' => e = .returned (.bool true) ∧ w' = W.drew) := pgiven_c p W.drew y0
  have HA : Hid (Calls Tryz.prog 24 #[.pointer (some ⟨F, 0, none⟩), .agg #[.int .i64 t, .int .i64 1, .string ev, .int .i64 0, .int .i64 sq, .bool an]] W.drew fun e w' => e = .returned (.bool true) ∧ Below W.drew.heap.size W.drew w') := awaits_yes F bN cN bE cE bP bT cT bI hz ia ic t sq ev an W.drew ((h.fx.below HB.out).below (Below.refl _ _).drew) hv hc
  have HSp : Hid (Sep q vq p ∧ q < w.heap.size ∧ ∀ k, vq.ownBlock = some k → k < w.heap.size) := ⟨h.sp, Q.hLt h.qh.b.blk, fun k e => (World.ownsRow.lt h.qh.b.row k e).2⟩
  have hd' : decide (t ≤ d) = true := decide_eq_true ht
  clear h hv hc hx hpW
  go_enter Tryz.func9, Tryz.ntmps9
  go_wp2_with fail
  rw [← hW]
  clear hW
  go_region_held (fun w' => w'.cell? ⟨p, 1, none⟩ = some (.pointer (some ⟨F, 0, none⟩)) ∧ w'.cell? ⟨w.heap.size, 0, none⟩ = some (.int .i64 t) ∧ w'.cell? ⟨w.heap.size, 1, none⟩ = some (.int .i64 1) ∧ w'.cell? ⟨w.heap.size, 2, none⟩ = some (.string ev) ∧ w'.cell? ⟨w.heap.size, 3, none⟩ = some (.int .i64 0) ∧ w'.cell? ⟨w.heap.size, 4, none⟩ = some (.int .i64 sq) ∧ w'.cell? ⟨w.heap.size, 5, none⟩ = some (.bool an)) (first | go_keep | exact hS5) (first
    | (go_at_call 22; refine HG.out.mono ?_; rintro e w' ⟨rfl, hw⟩; rw [hw]; clear hw)
    | (go_at_call 24; refine HA.out.mono ?_; rintro e w5 ⟨rfl, hb5⟩; have hb5' : Below W.heap.size W w5 := (by exact ⟨hb5.os, hb5.tape, hb5.output, hb5.size, hb5.block⟩); have hS5 : w5.cell? ⟨p, 1, none⟩ = some (.pointer (some ⟨F, 0, none⟩)) ∧ w5.cell? ⟨w.heap.size, 0, none⟩ = some (.int .i64 t) ∧ w5.cell? ⟨w.heap.size, 1, none⟩ = some (.int .i64 1) ∧ w5.cell? ⟨w.heap.size, 2, none⟩ = some (.string ev) ∧ w5.cell? ⟨w.heap.size, 3, none⟩ = some (.int .i64 0) ∧ w5.cell? ⟨w.heap.size, 4, none⟩ = some (.int .i64 sq) ∧ w5.cell? ⟨w.heap.size, 5, none⟩ = some (.bool an) := ⟨(hb5'.cell (p := ⟨p, 1, none⟩) lp).trans y1, (hb5'.cell (p := ⟨w.heap.size, 0, none⟩) lx).trans x0, (hb5'.cell (p := ⟨w.heap.size, 1, none⟩) lx).trans x1, (hb5'.cell (p := ⟨w.heap.size, 2, none⟩) lx).trans x2, (hb5'.cell (p := ⟨w.heap.size, 3, none⟩) lx).trans x3, (hb5'.cell (p := ⟨w.heap.size, 4, none⟩) lx).trans x4, (hb5'.cell (p := ⟨w.heap.size, 5, none⟩) lx).trans x5⟩))
  all_goals
    have HB5 : Hid (Below W.heap.size W w5) := hb5'
    obtain ⟨z0, z1, z2, z3, z4, z5, z6, z7⟩ := pr8 ((hb5'.block p lp).trans HPW.out)
    obtain ⟨⟨u0, u1, u2, u3, u4, u5⟩, _⟩ := Q.cell6 ((hb5'.block w.heap.size lx).trans HX.out)
    have lp5 := Nat.lt_of_lt_of_le lp hb5'.size
    have lx5 := Nat.lt_of_lt_of_le lx hb5'.size
    clear hS5 hb5 hb5' x0 x1 x2 x3 x4 x5 y0 y1 y2 y3 y4 y5 y6 y7
    go_wp2_with fail
    go_quiet (fail)
    go_wp2_with fail
    go_ret
    exact ⟨rfl, by first | exact Q.belDN (bel HB.out HB5.out) _ | exact (Q.belDN (bel HB.out HB5.out) _).drew | exact bel HB.out HB5.out⟩
end Go.Proofs.YtokepgnnepjiaaaGreat

/- slices.Reverse of one list, slices.Grow of none by one, slices.Concat of one list of one change. -/
namespace Go.Proofs.YtokepgnnepjiaaaGreat
set_option maxRecDepth 100000
open Go.RowKit Lg Nl Go.Maps Go.Shelf
set_option linter.unusedVariables false
set_option linter.unusedSimpArgs false

set_option maxHeartbeats 1000000 in
theorem rev1_c (ao : Option Addr) (c : Nat) (w : World) : Calls Tryz.prog 55 #[.slice ao 1 c] w fun e w' => e = .returned (.tuple #[]) ∧ w' = w := by
  go_enter Tryz.func55, Tryz.ntmps55
  go_wp2_with fail
  go_loopw [2, 3] (fun s2 s3 W => s2 = .int .i64 0 ∧ s3 = .int .i64 0 ∧ W = w) (fun s2 s3 W => 0)
  case atStart => exact ⟨rfl, rfl, rfl⟩
  case round =>
    obtain ⟨rfl, rfl, rfl⟩ := hrel
    go_wp2_with fail
    go_end0
    exact ⟨rfl, rfl⟩
def growC_ren : Go.Shelf.Ren := ⟨fun | 4 => 82 | n => n, fun | 22 => 47 | 25 => 74 | 3 => 3 | 4 => 4 | 9 => 9 | 20 => 20 | 0 => 0 | n => n, fun | n => n⟩
theorem growC : Go.Proofs.Lays8.n4 Tryz.prog growC_ren := {
  mixed := by kernel_rfl
  f4 := ⟨Tryz.f82.name, by decide, Tryz.func82.trans (congrArg some (by kernel_rfl))⟩
  t0 := Tryz.underlying0
  a0 := Tryz.isAgg0
  z0 := Tryz.sizeOf0
  v0 := Tryz.zeroValue0
  t3 := Tryz.underlying3
  a3 := Tryz.isAgg3
  z3 := Tryz.sizeOf3
  v3 := Tryz.zeroValue3
  t4 := Tryz.underlying4
  a4 := Tryz.isAgg4
  z4 := Tryz.sizeOf4
  v4 := Tryz.zeroValue4
  t9 := Tryz.underlying9
  a9 := Tryz.isAgg9
  z9 := Tryz.sizeOf9
  v9 := Tryz.zeroValue9
  t20 := Tryz.underlying20
  a20 := Tryz.isAgg20
  z20 := Tryz.sizeOf20
  v20 := Tryz.zeroValue20
  t22 := Tryz.underlying47
  a22 := Tryz.isAgg47
  z22 := Tryz.sizeOf47
  v22 := Tryz.zeroValue47 }
theorem grow1_c (w : World) : Calls Tryz.prog 82 #[.slice none 0 0, .int .i64 1] w fun e w' => ∃ c, e = .returned (.slice (some ⟨w.heap.size, 0, none⟩) 0 c) ∧ Hid (w'.ownsRow w.heap.size 74 3 (.slice (some ⟨w.heap.size, 0, none⟩) 0 c) 0 []) ∧ Below w.heap.size w w' := by
  obtain ⟨j, h1, h2, h3, h4⟩ := infoCh
  refine (Any8.slices_Grow_grow growC j _ h1 h2 (by rw [h3]; decide) none 0 0 1 [] w (by omega) (by omega) (by rw [h4]; omega) (by omega) (by simp) (fun _ => rfl) (fun a h => nomatch h)).mono ?_
  rintro e w' ⟨rfl, rfl⟩
  refine ⟨_, rfl, ?_, ?_⟩
  · refine World.ownsRow_made w.drew _ _ (Nat.le_refl _) ?_ ?_
    · exact grownCap_le_maxLen _ _ _ _ (by unfold maxLen; omega)
    · have := grownCap_ge w (0 + 1) 0 74
      simp only [Array.size_append, size_zeroCells, List.size_toArray, List.length_nil]
      show 0 + (0 + 1 - 0) * 3 + (grownCap w (0 + 1) 0 74 - (0 + 1)) * 3 = grownCap w (0 + 1) 0 74 * 3
      omega
  · exact belA (Below.refl w.heap.size w).drew _
end Go.Proofs.YtokepgnnepjiaaaGreat

/- slices.Concat of one list of one change; the changes of one moment. -/
namespace Go.Proofs.YtokepgnnepjiaaaGreat
set_option maxRecDepth 100000
open Go.RowKit Lg Nl Go.Maps Go.Shelf
set_option linter.unusedVariables false
set_option linter.unusedSimpArgs false

theorem infoLs : ∃ i, Tryz.prog.info? 47 = some i ∧ i.zero = some (.slice none 0 0) ∧ i.size = 1 ∧ i.bytes = 24 := Q.info_parts (by kernel_rfl)
def Cc (w : World) (t n : Int) (v : ByteArray) (k : Int) (s : Value) (W : World) : Prop :=
  (k = 0 → ∃ g c, s = .slice (some ⟨g, 0, none⟩) 0 c ∧ W.ownsRow w.heap.size 74 3 s 0 []) ∧ (k = 1 → ∃ g c, s = .slice (some ⟨g, 0, none⟩) 1 c ∧ C1 w.heap.size g t n v W)
set_option maxHeartbeats 2000000 in
theorem concat1_c (bL cL bC cC B : Nat) (t n : Int) (v : ByteArray) (w : World) (hL : w.cell? ⟨bL, 0, none⟩ = some (.slice (some ⟨bC, 0, none⟩) 1 cC)) (hC : C1 B bC t n v w) :
    Calls Tryz.prog 56 #[.slice (some ⟨bL, 0, none⟩) 1 cL] w fun e w' => ∃ g c, e = .returned (.slice (some ⟨g, 0, none⟩) 1 c) ∧ Hid (C1 w.heap.size g t n v w') ∧ Below w.heap.size w w' := by
  have lL := World.block_lt_of_cell? w ⟨bL, 0, none⟩ hL
  have HL : Hid (w.cell? ⟨bL, 0, none⟩ = some (.slice (some ⟨bC, 0, none⟩) 1 cC)) := hL
  have HC : Hid (C1 B bC t n v w) := hC
  clear hC
  obtain ⟨j, h1, h2, h3, h4⟩ := infoCh
  go_enter Tryz.func56, Tryz.ntmps56
  go_wp2_with fail
  go_loopw [11, 3] (fun s11 s3 W => ∃ (k : Int), (k = 0 ∨ k = 1) ∧ s11 = .int .i64 k ∧ s3 = .int .i64 k ∧ w = W) (fun s11 s3 W => 1 - (intOf s11).toNat)
  case atStart => exact ⟨0, Or.inl rfl, rfl, rfl, rfl⟩
  case round =>
    obtain ⟨k, hk, rfl, rfl, rfl⟩ := hrel
    rcases hk with rfl | rfl
    · go_wp2_with fail
      go_roundw
      case rel => exact ⟨1, Or.inr rfl, rfl, rfl, by first | rfl | trivial⟩
      case measure => simp [intOf]
    · clear hL
      go_wp2_with (first
        | (go_at_call 82; refine (grow1_c _).mono ?_; rintro e w1 ⟨c, rfl, HO, hb1⟩))
      have HB : Hid (Below w.heap.size w w1) := hb1
      clear hb1
      go_loopw [27, 6] (fun s27 s6 W => ∃ (k : Int), (k = 0 ∨ k = 1) ∧ s27 = .int .i64 k ∧ Hid (Cc w t n v k s6 W) ∧ Hid (Below w.heap.size w W)) (fun s27 s6 W => 1 - (intOf s27).toNat)
      case atStart => exact ⟨0, Or.inl rfl, rfl, ⟨fun _ => ⟨_, _, rfl, HO.out⟩, fun h => absurd h (by decide)⟩, HB.out⟩
      case round =>
        obtain ⟨k, hk, rfl, HCc, HB2⟩ := hrel
        rcases hk with rfl | rfl
        · obtain ⟨g, c2, rfl, hown⟩ := HCc.out.1 rfl
          have hl := (HB2.out.cell (p := ⟨bL, 0, none⟩) lL).trans HL.out
          have lL2 := Nat.lt_of_lt_of_le lL HB2.out.size
          have HCr : Hid (C1 B bC t n v wr) := HC.out.keep (HB2.out.block bC HC.out.lt)
          have HOw : Hid (wr.ownsRow w.heap.size 74 3 (.slice (some ⟨g, 0, none⟩) 0 c2) 0 []) := hown
          clear hown
          go_wp2_with (first
            | (at_builtin; refine wpList_append_own_at _ rfl _ _ 47 rfl w.heap.size 74 j _ 3 32 Tryz.underlying47 h1 h2 h3 h4 rfl (by decide) _ 0 [] rfl HOw.out ⟨bC, 0, none⟩ 1 cC [.int .i64 t, .int .i64 n, .string v] rfl rfl (fun j u hj => by
                match j, hj with
                | 0, hj => simp at hj; subst hj; exact HCr.out.c0
                | 1, hj => simp at hj; subst hj; exact HCr.out.c1
                | 2, hj => simp at hj; subst hj; exact HCr.out.c2
                | n + 3, hj => simp at hj) (by intro u hu; simp at hu; rcases hu with rfl | rfl | rfl <;> rfl) (by unfold maxLen; omega) (by omega) HB2.out.size ?_; intro v9 w9 hown9 hgrow9 hnil9 hloc9))
          obtain ⟨g9, cap9, rfl⟩ : ∃ g cap, v9 = .slice (some ⟨g, 0, none⟩) 1 cap := own_slice1 hown9
          have hl9 := World.ownsRow.lt hown9
          have hg0 := (World.ownsRow.lt HOw.out g rfl).1
          go_roundw
          case rel => exact ⟨1, Or.inr rfl, rfl, ⟨fun h => absurd h (by decide), fun _ => ⟨g9, cap9, rfl, ⟨(hl9 g9 rfl).1, by rw [hown9.cellAt 0 (by omega)]; rfl, by rw [hown9.cellAt 1 (by omega)]; rfl, by rw [hown9.cellAt 2 (by omega)]; rfl⟩⟩⟩, belG HB2.out hgrow9 (by intro k hk; simp [Act.eval, Value.ownBlock] at hk; omega)⟩
          case measure => simp [intOf]
        · obtain ⟨g, c2, rfl, hc⟩ := HCc.out.2 rfl
          have HCf : Hid (C1 w.heap.size g t n v wr) := hc
          clear hc
          go_wp2_with fail
          go_ret
          exact ⟨g, c2, rfl, HCf, HB2.out⟩
def Sn (w : World) (bC cC : Nat) (k : Int) (s0 s5 : Value) (m : Nat) (W : World) : Prop :=
  (k = 0 → s0 = .pointer (some ⟨m, 0, none⟩) ∧ s5 = .slice none 0 0) ∧ (k = 1 → s0 = .pointer none ∧ ∃ g c, s5 = .slice (some ⟨g, 0, none⟩) 1 c ∧ W.cell? ⟨g, 0, none⟩ = some (.slice (some ⟨bC, 0, none⟩) 1 cC))
set_option maxHeartbeats 2000000 in
theorem since1_c (m bC cC B : Nat) (t n f : Int) (v : ByteArray) (w : World) (hm : w.heap[m]? = some (.cells #[.pointer none, .slice (some ⟨bC, 0, none⟩) 1 cC] 108 (0, 0))) (hC : C1 B bC t n v w) (hf : f ≤ t) :
    Calls Tryz.prog 29 #[.pointer (some ⟨m, 0, none⟩), .int .i64 f] w fun e w' => ∃ g c, e = .returned (.slice (some ⟨g, 0, none⟩) 1 c) ∧ Hid (C1 w.heap.size g t n v w') ∧ Below w.heap.size w w' := by
  have HM : Hid (w.heap[m]? = some (.cells #[.pointer none, .slice (some ⟨bC, 0, none⟩) 1 cC] 108 (0, 0))) := hm
  have HC : Hid (C1 B bC t n v w) := hC
  have hd : decide (t ≥ f) = true := decide_eq_true hf
  clear hC hm
  obtain ⟨j, h1, h2, h3, h4⟩ := infoLs
  go_enter Tryz.func29, Tryz.ntmps29
  go_wp2_with fail
  go_loopw [0, 5] (fun s0 s5 W => ∃ (k : Int), (k = 0 ∨ k = 1) ∧ Hid (Sn w bC cC k s0 s5 m W) ∧ Hid (Below w.heap.size w W)) (fun s0 s5 W => match s0 with | .pointer none => 0 | _ => 1)
  case atStart => exact ⟨0, Or.inl rfl, ⟨fun _ => ⟨rfl, rfl⟩, fun h => absurd h (by decide)⟩, Below.refl _ _⟩
  case round =>
    obtain ⟨k, hk, HS, HB⟩ := hrel
    rcases hk with rfl | rfl
    · obtain ⟨rfl, rfl⟩ := HS.out.1 rfl
      have hm := (HB.out.block m (hLt HM.out)).trans HM.out
      have lm := hLt hm
      have m0 : wr.cell? ⟨m, 0, none⟩ = some (.pointer none) := Lib.cell_of_heap hm 0
      have m1 : wr.cell? ⟨m, 1, none⟩ = some (.slice (some ⟨bC, 0, none⟩) 1 cC) := Lib.cell_of_heap hm 1
      have hC := HC.out.keep (HB.out.block bC HC.out.lt)
      have c0 := hC.c0
      have lC := hC.lt
      clear hC hm
      go_wp2_with (first
        | (at_builtin; refine wpList_append_own_at _ rfl _ _ 106 rfl w.heap.size 47 j _ 1 24 Tryz.underlying106 h1 h2 h3 h4 rfl (by decide) _ 0 [] rfl (World.ownsRow_nil _ _ _ _) ⟨wr.heap.size, 0, none⟩ 1 1 [.slice (some ⟨bC, 0, none⟩) 1 cC] rfl rfl (fun j u hj => by
                match j, hj with
                | 0, hj => simp at hj; subst hj; exact Lib.cell_of_heap (alAt rfl) 0
                | n + 1, hj => simp at hj) (by intro u hu; simp at hu; subst hu; rfl) (by unfold maxLen; omega) (by omega) (Nat.le_trans HB.out.size (by simp)) ?_; intro v9 w9 hown9 hgrow9 hnil9 hloc9; have hb9 : Below w.heap.size w w9 := belG (belA HB.out _) hgrow9 (by simp [Act.eval, Value.ownBlock]); have m9 : w9.cell? ⟨m, 0, none⟩ = some (.pointer none) := Lib.cell_of_heap ((hb9.block m (hLt HM.out)).trans HM.out) 0; have lm9 := World.block_lt_of_cell? w9 ⟨m, 0, none⟩ m9))
      obtain ⟨g9, cap9, rfl⟩ : ∃ g cap, v9 = .slice (some ⟨g, 0, none⟩) 1 cap := own_slice1 hown9
      have hl9 := World.ownsRow.lt hown9
      go_roundw
      case rel => exact ⟨1, Or.inr rfl, ⟨fun h => absurd h (by decide), fun _ => ⟨rfl, g9, cap9, rfl, by rw [hown9.cellAt 0 (by omega)]; rfl⟩⟩, hb9⟩
      case measure => simp
    · obtain ⟨rfl, g, c, rfl, hg⟩ := HS.out.2 rfl
      have HG : Hid (Calls Tryz.prog 56 #[.slice (some ⟨g, 0, none⟩) 1 c] wr fun e w' => ∃ g c, e = .returned (.slice (some ⟨g, 0, none⟩) 1 c) ∧ Hid (C1 wr.heap.size g t n v w') ∧ Below wr.heap.size wr w') := concat1_c g c bC cC B t n v wr hg (HC.out.keep (HB.out.block bC HC.out.lt))
      clear hg HS
      go_wp2_with (first
        | (go_at_call 55; refine (rev1_c _ _ _).mono ?_; rintro e w1 ⟨rfl, hw⟩; rw [hw]; clear hw)
        | (go_at_call 56; refine HG.out.mono ?_; rintro e w2 ⟨g2, c2, rfl, H2, hb2⟩))
      go_ret
      have hz := HB.out.size
      exact ⟨g2, c2, rfl, ⟨Nat.le_trans hz H2.out.ge, H2.out.c0, H2.out.c1, H2.out.c2⟩, bel HB.out hb2⟩
set_option maxHeartbeats 2000000 in
theorem changes1m_c (p F q m bC cC B : Nat) (d mk t n f : Int) (vs vv : Value) (v : ByteArray) (w : World) (hp : w.heap[p]? = some (prC p F q d vs mk vv (some ⟨m, 0, none⟩))) (hm : w.heap[m]? = some (.cells #[.pointer none, .slice (some ⟨bC, 0, none⟩) 1 cC] 108 (0, 0))) (hC : C1 B bC t n v w) (hf : f ≤ t) :
    Calls Tryz.prog 15 #[.pointer (some ⟨p, 0, none⟩), .int .i64 f] w fun e w' => ∃ g c, e = .returned (.slice (some ⟨g, 0, none⟩) 1 c) ∧ Hid (C1 w.heap.size g t n v w') ∧ Below w.heap.size w w' := by
  have HG : Hid (Calls Tryz.prog 22 #[.pointer (some ⟨p, 0, none⟩)] w fun e w' => e = .returned (.bool true) ∧ w' = w) := pgiven_c p w (pr8 hp).1
  have HS : Hid (Calls Tryz.prog 29 #[.pointer (some ⟨m, 0, none⟩), .int .i64 f] w fun e w' => ∃ g c, e = .returned (.slice (some ⟨g, 0, none⟩) 1 c) ∧ Hid (C1 w.heap.size g t n v w') ∧ Below w.heap.size w w') := since1_c m bC cC B t n f v w hm hC hf
  obtain ⟨y0, y1, y2, y3, y4, y5, y6, y7⟩ := pr8 hp
  have lp := hLt hp
  clear hm hC hp
  go_enter Tryz.func15, Tryz.ntmps15
  go_wp2_with (first
    | (go_at_call 22; refine HG.out.mono ?_; rintro e w1 ⟨rfl, hw⟩; rw [hw]; clear hw)
    | (go_at_call 29; refine HS.out.mono ?_; rintro e w2 ⟨g2, c2, rfl, H2, hb2⟩))
  go_ret
  exact ⟨g2, c2, rfl, H2, hb2⟩
end Go.Proofs.YtokepgnnepjiaaaGreat

/- The two processes side by side: what every law of layer 15 ends in. -/
namespace Go.Proofs.YtokepgnnepjiaaaGreat
set_option maxRecDepth 100000
open Go.RowKit Lg Nl Go.Maps
set_option linter.unusedVariables false
set_option linter.unusedSimpArgs false

theorem U1.mvb {B p q : Nat} {hz d : Int} {v : ByteArray} {l : List Q.Qu.Ev} {pp : Option Addr} {F bN cN bE cE bP bT cT bI : Nat} {ia : Option Addr} {ic bV cV : Nat} {vq : Value} {W W' : World} (h : U1 B p q hz d v l pp F bN cN bE cE bP bT cT bI ia ic bV cV vq W) (hs : W.heap.size ≤ W'.heap.size) (hk : ∀ k, B ≤ k → k < W.heap.size → W'.heap[k]? = W.heap[k]?) : U1 B p q hz d v l pp F bN cN bE cE bP bT cT bI ia ic bV cV vq W' :=
  ⟨(hk p h.gp (hLt h.pb)).trans h.pb, h.fx.mv fun b i u hx hu => (cellE (hk b (h.lo b (by rcases hx with e | e | e | e | e | e <;> simp [e])) (World.block_lt_of_cell? W ⟨b, i, none⟩ hu))).trans hu, (cellE (hk bV (h.lo bV (by simp)) (World.block_lt_of_cell? W ⟨bV, 0, none⟩ h.vv))).trans h.vv, Qh_keep h.qh (hk q h.qh.b.ge (Q.hLt h.qh.b.blk)) (fun k e => hk k (World.ownsRow.lt h.qh.b.row k e).1 (World.ownsRow.lt h.qh.b.row k e).2), Nat.le_trans h.hB hs, h.gp, h.sp, h.sv, h.vp, h.sf, h.lo⟩
theorem U1E.mvb {B p q : Nat} {hz d : Int} {v : ByteArray} {l : List Q.Qu.Ev} {pp : Option Addr} {S : Nat} {W W' : World} (h : U1E B p q hz d v l pp S W) (hs : W.heap.size ≤ W'.heap.size) (hk : ∀ k, B ≤ k → k < W.heap.size → W'.heap[k]? = W.heap[k]?) : U1E B p q hz d v l pp S W' := by
  obtain ⟨F, bN, cN, bE, cE, bP, bT, cT, bI, ia, ic, bV, cV, vq, h, hr⟩ := h
  exact ⟨F, bN, cN, bE, cE, bP, bT, cT, bI, ia, ic, bV, cV, vq, h.mvb hs hk, hr⟩
theorem U0E.below {B p q : Nat} {hz d : Int} {v : ByteArray} {pp : Option Addr} {S : Nat} {W W' : World} (h : U0E B p q hz d v pp S W) (hb : Below W.heap.size W W') : U0E B p q hz d v pp S W' := by
  obtain ⟨F, bN, cN, bE, cE, bP, bT, cT, bI, bL, cL, ia, ic, bV, cV, bS, cS, vq, h, hs⟩ := h
  exact ⟨F, bN, cN, bE, cE, bP, bT, cT, bI, bL, cL, ia, ic, bV, cV, bS, cS, vq, h.below hb, hs⟩
theorem step0a_e {B p q : Nat} {hz : Int} {pp : Option Addr} {S : Nat} {w : World} (h : U0E B p q hz (-1) ⟨#[120]⟩ pp S w) (hS : S ≤ w.heap.size) :
    Calls Tryz.prog 7 #[.pointer (some ⟨p, 0, none⟩)] w fun e w' => e = .returned (.tuple #[.slice none 0 0, .int .i64 0]) ∧ Hid (U0E B p q hz 0 ⟨#[120]⟩ pp S w') ∧ Hid (∃ U, (∀ k, U = some k → S ≤ k) ∧ But3 p q U w w') := by
  obtain ⟨F, bN, cN, bE, cE, bP, bT, cT, bI, bL, cL, ia, ic, bV, cV, bS, cS, vq, h, hs⟩ := h
  refine (step0a_c B p q hz pp F bN cN bE cE bP bT cT bI bL cL ia ic bV cV bS cS vq w S hS hs h).mono ?_
  rintro e w' ⟨rfl, a, b⟩
  exact ⟨rfl, a, ⟨_, hs, b.out⟩⟩
theorem step0b_e {B p q : Nat} {hz : Int} {pp : Option Addr} {S : Nat} {w : World} (h : U0E B p q hz 0 ⟨#[120]⟩ pp S w) (h0 : 3 ≤ hz) (h1 : hz ≤ 1000000) :
    Calls Tryz.prog 7 #[.pointer (some ⟨p, 0, none⟩)] w fun e w' => ∃ g c, e = .returned (.tuple #[.slice (some ⟨g, 0, none⟩) 1 c, .int .i64 0]) ∧ Hid (E1 w.heap.size g 5 1 ⟨#[49]⟩ 0 1 w') ∧ Hid (∃ U, (∀ k, U = some k → S ≤ k) ∧ But3 p q U w w') := by
  obtain ⟨F, bN, cN, bE, cE, bP, bT, cT, bI, bL, cL, ia, ic, bV, cV, bS, cS, vq, h, hs⟩ := h
  refine (step0b_c B p q hz pp F bN cN bE cE bP bT cT bI bL cL ia ic bV cV bS cS vq w h h0 h1).mono ?_
  rintro e w' ⟨g, c, rfl, a, b⟩
  exact ⟨g, c, rfl, a, ⟨_, hs, b.out⟩⟩
theorem next0_e {B p q : Nat} {hz : Int} {pp : Option Addr} {S : Nat} {w : World} (h : U0E B p q hz 0 ⟨#[120]⟩ pp S w) (h0 : 3 ≤ hz) (h1 : hz ≤ 1000000) :
    Calls Tryz.prog 13 #[.pointer (some ⟨p, 0, none⟩)] w fun e w' => e = .returned (.tuple #[.int .i64 3, .bool true]) ∧ Below w.heap.size w w' := by
  obtain ⟨F, bN, cN, bE, cE, bP, bT, cT, bI, bL, cL, ia, ic, bV, cV, bS, cS, vq, h, hs⟩ := h
  exact pnext_st B p F q bS cS 0 hz 0 3 _ vq pp w h.pb h.fx.f1 h.st.c0 (by omega) (by omega) h1 h0 h.qh
/-- the event that process 0 sends -/
def ev5 : Q.Qu.Ev := ⟨5, 1, ⟨#[49]⟩, 0, 1, false⟩
theorem take1_e {B p q : Nat} {hz : Int} {v : ByteArray} {pp : Option Addr} {S : Nat} {w : World} (h : U1E B p q hz (-1) v [] pp S w) (hS : S ≤ w.heap.size) :
    Calls Tryz.prog 9 #[.pointer (some ⟨p, 0, none⟩), .agg #[.int .i64 5, .int .i64 1, .string ⟨#[49]⟩, .int .i64 0, .int .i64 1, .bool false]] w fun e w' => e = .returned (.int .i64 0) ∧ Hid (U1E B p q hz (-1) v [ev5] pp S w') ∧ Hid (∃ U, (∀ k, U = some k → S ≤ k) ∧ But3 p q U w w') := by
  obtain ⟨F, bN, cN, bE, cE, bP, bT, cT, bI, ia, ic, bV, cV, vq, h, hs⟩ := h
  refine (take1_ok B p q hz (-1) v [] pp F bN cN bE cE bP bT cT bI ia ic bV cV vq ev5 w S hS hs h rfl rfl rfl (by decide) (by decide) (by decide) rfl rfl (by decide) (by decide)).mono ?_
  rintro e w' ⟨rfl, H, hb⟩
  obtain ⟨l', hu, hp⟩ := H.out
  rw [List.perm_singleton.1 hp] at hu
  exact ⟨rfl, hu, _, hs, hb⟩
theorem late1_e {B p q : Nat} {hz : Int} {v : ByteArray} {l : List Q.Qu.Ev} {pp : Option Addr} {S : Nat} {w : World} (h : U1E B p q hz 5 v l pp S w) :
    Calls Tryz.prog 9 #[.pointer (some ⟨p, 0, none⟩), .agg #[.int .i64 5, .int .i64 1, .string ⟨#[49]⟩, .int .i64 0, .int .i64 1, .bool false]] w fun e w' => e = .returned (.int .i64 5) ∧ Below w.heap.size w w' := by
  obtain ⟨F, bN, cN, bE, cE, bP, bT, cT, bI, ia, ic, bV, cV, vq, h, hs⟩ := h
  exact take1_late B p q hz 5 v l pp F bN cN bE cE bP bT cT bI ia ic bV cV vq 5 1 ⟨#[49]⟩ false w h rfl (by decide) (by decide)
theorem step1a_e {B p q : Nat} {hz : Int} {S : Nat} {w : World} (h : U1E B p q hz (-1) ⟨#[120]⟩ [ev5] none S w) (hS : S ≤ w.heap.size) :
    Calls Tryz.prog 7 #[.pointer (some ⟨p, 0, none⟩)] w fun e w' => e = .returned (.tuple #[.slice none 0 0, .int .i64 0]) ∧ Hid (U1E B p q hz 0 ⟨#[120]⟩ [ev5] none S w') ∧ Hid (∃ U, (∀ k, U = some k → S ≤ k) ∧ But3 p q U w w') := by
  obtain ⟨F, bN, cN, bE, cE, bP, bT, cT, bI, ia, ic, bV, cV, vq, h, hs⟩ := h
  refine (step1_g B p q hz (-1) 0 ⟨#[120]⟩ [ev5] none F bN cN bE cE bP bT cT bI ia ic bV cV vq w S hS hs h (by decide) (by intro x hx; simp at hx; subst hx; rfl) ((pnext_0 p F q 0 _ _ none w h.pb).mono (by rintro e w' ⟨rfl, rfl⟩; exact ⟨rfl, Below.refl _ _⟩))).mono ?_
  rintro e w' ⟨rfl, ds, rest, pp', HU, HP, HS, hb⟩
  obtain ⟨hp, ht, _⟩ := HP.out
  have hd : ds = [] := by
    rcases ds with _ | ⟨y, ys⟩
    · rfl
    · have h1 : y ∈ [ev5] := hp.symm.subset (by simp)
      have h2 := ht y (by simp)
      simp at h1
      subst h1
      exact absurd h2 (by decide)
  subst hd
  have hr : rest = [ev5] := List.perm_singleton.1 (by simpa using hp.symm)
  subst hr
  rcases HS.out with ⟨e, _⟩ | ⟨hne, _⟩
  · subst e
    exact ⟨rfl, HU.out, _, hs, hb⟩
  · exact absurd rfl hne
theorem step1b_e {B p q : Nat} {hz : Int} {S : Nat} {w : World} (h : U1E B p q hz 0 ⟨#[120]⟩ [ev5] none S w) (hS : S ≤ w.heap.size) (h0 : 5 ≤ hz) (h1 : hz ≤ 1000000) :
    Calls Tryz.prog 7 #[.pointer (some ⟨p, 0, none⟩)] w fun e w' => e = .returned (.tuple #[.slice none 0 0, .int .i64 0]) ∧ Hid (∃ m bC cC, U1E B p q hz 5 ⟨#[49]⟩ [] (some ⟨m, 0, none⟩) S w' ∧ w'.heap[m]? = some (.cells #[.pointer none, .slice (some ⟨bC, 0, none⟩) 1 cC] 108 (0, 0)) ∧ C1 w.heap.size bC 5 1 ⟨#[49]⟩ w') ∧ Hid (∃ U, (∀ k, U = some k → S ≤ k) ∧ But3 p q U w w') := by
  obtain ⟨F, bN, cN, bE, cE, bP, bT, cT, bI, ia, ic, bV, cV, vq, h, hs⟩ := h
  refine (step1_g B p q hz 0 5 ⟨#[120]⟩ [ev5] none F bN cN bE cE bP bT cT bI ia ic bV cV vq w S hS hs h (by decide) (by intro x hx; simp at hx; subst hx; rfl) (pnext_ev B p F q 0 0 hz 0 _ vq none [ev5] w h.pb h.fx.f1 (by omega) (by omega) h1 h.qh rfl (by omega) h0)).mono ?_
  rintro e w' ⟨rfl, ds, rest, pp', HU, HP, HS, hb⟩
  obtain ⟨hp, ht, hr⟩ := HP.out
  have hr0 : rest = [] := by
    rcases rest with _ | ⟨y, ys⟩
    · rfl
    · have h1 : y ∈ [ev5] := hp.symm.subset (by simp)
      simp at h1
      subst h1
      rcases hr with hr | hr
      · cases hr
      · exact absurd rfl hr
  subst hr0
  have hd : ds = [ev5] := List.perm_singleton.1 (by simpa using hp.symm)
  subst hd
  rcases HS.out with ⟨_, e⟩ | ⟨_, m, bC, cC, e, hm, hc, _⟩
  · exact absurd e (by decide)
  · subst e
    exact ⟨rfl, ⟨m, bC, cC, HU.out, hm, hc⟩, _, hs, hb⟩
end Go.Proofs.YtokepgnnepjiaaaGreat
