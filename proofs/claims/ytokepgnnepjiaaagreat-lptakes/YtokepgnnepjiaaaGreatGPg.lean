/- Texts PM QE, joined: what each part says stands ahead of it. -/
import Derived.Test.YtokepgnnepjiaaaGreatPH
import Derived.Test.YtokepgnnepjiaaaGreatGPe
import Derived.BigRegion
import Derived.Test.YtokepgnnepjiaaaGreatGPd
/- A process: what process 0 gets; put of none; due of none. -/
namespace Go.Proofs.YtokepgnnepjiaaaGreat
set_option maxRecDepth 100000
open Go.RowKit Lg Nl Go.Maps
set_option linter.unusedVariables false
set_option linter.unusedSimpArgs false

set_option maxHeartbeats 2000000 in
/-- nothing comes: nothing is got -/
theorem gets_none (F : Nat) (sa : Option Addr) (sc : Nat) (w : World) :
    Calls Tryz.prog 44 #[.pointer (some ⟨F, 0, none⟩), .slice sa 0 sc, .slice none 0 0] w fun e w' => e = .returned (.slice none 0 0) ∧ w' = w := by
  go_enter Tryz.func44, Tryz.ntmps44
  go_wp2_with fail
  go_loopw [14, 7] (fun s14 s7 W => s14 = .int .i64 0 ∧ s7 = .slice none 0 0 ∧ Hid (W = w)) (fun s14 s7 W => 0)
  case atStart => exact ⟨rfl, rfl, rfl⟩
  case round =>
    obtain ⟨rfl, rfl, HW⟩ := hrel
    rw [HW.out]
    clear HW
    go_wp2_with fail
    go_loopw [35, 7] (fun s35 s7 W => s35 = .int .i64 0 ∧ s7 = .slice none 0 0 ∧ Hid (W = w)) (fun s35 s7 W => 0)
    case atStart => exact ⟨rfl, rfl, rfl⟩
    case round =>
      obtain ⟨rfl, rfl, HW⟩ := hrel
      rw [HW.out]
      go_wp2_with fail
      go_ret
      exact ⟨rfl, rfl⟩
set_option maxHeartbeats 4000000 in
/-- a change of its stimulus comes: process 0 gets it -/
theorem gets0_one (F bN cN bE cE bP bT cT bI bL cL bS cS : Nat) (h tm : Int) (v : ByteArray) (ia : Option Addr) (ic : Nat) (w : World) (hF : Fc0 h F bN cN bE cE bP bT cT bI bL cL ia ic w) (s0 : w.cell? ⟨bS, 0, none⟩ = some (.int .i64 tm)) (s1 : w.cell? ⟨bS, 1, none⟩ = some (.int .i64 0)) (s2 : w.cell? ⟨bS, 2, none⟩ = some (.string v)) :
    Calls Tryz.prog 44 #[.pointer (some ⟨F, 0, none⟩), .slice (some ⟨bS, 0, none⟩) 1 cS, .slice none 0 0] w fun e w' => ∃ a c, e = .returned (.slice a 1 c) ∧ Hid (GotsAt w' a [v]) ∧ Below w.heap.size w w' := by
  have HF : Hid (Fc0 h F bN cN bE cE bP bT cT bI bL cL ia ic w) := hF
  have hbs : w.heap.size ≤ ((((w.alloc (.cells #[.int .i64 tm, .int .i64 0, .string v] 74)).alloc (.cells #[.int .i64 0, .string v] 132)).drew).heap.size) := by simp [World.drew]; omega
  obtain ⟨g9, c9, W9, hrun, HO9, HG9, HL9⟩ := appX infoGot Tryz.underlying91 rfl (by decide) (World.ownsRow_nil ((w.alloc (.cells #[.int .i64 tm, .int .i64 0, .string v] 74)).alloc (.cells #[.int .i64 0, .string v] 132)).drew w.heap.size 132 2) (w.heap.size + 1) (news := [.int .i64 0, .string v]) rfl (fun j u hj => new2 (w.alloc (.cells #[.int .i64 tm, .int .i64 0, .string v] 74)) _ _ _ _ (by simp) j u hj) (by intro u hu; simp at hu; rcases hu with rfl | rfl <;> rfl) (by omega) (by decide) hbs
  have HB9 : Hid (Below w.heap.size w W9) := belG (belA (belA (Below.refl _ _) _) _).drew HG9.out (fun k e => by cases e)
  have HL : Hid (Gl w.heap.size (.slice (some ⟨g9, 0, none⟩) 1 c9) [v] W9) := ⟨HO9.out⟩
  have f5 := hF.f5
  have t0 := hF.t0
  have lT := World.block_lt_of_cell? w ⟨bT, 0, none⟩ t0
  have lF := World.block_lt_of_cell? w ⟨F, 5, none⟩ f5
  have lS := World.block_lt_of_cell? w ⟨bS, 0, none⟩ s0
  clear hF HO9 HG9 HL9 hbs
  go_enter Tryz.func44, Tryz.ntmps44
  go_wp2_with fail
  go_loopw [14, 7] (fun s14 s7 W => ∃ (k : Int) (a : Option Addr) (m c : Nat), (k = 0 ∨ k = 1) ∧ s14 = .int .i64 k ∧ s7 = .slice a m c ∧ Hid (k = 0 → W = w ∧ a = none ∧ m = 0 ∧ c = 0) ∧ Hid (k = 1 → W = W9 ∧ a = some ⟨g9, 0, none⟩ ∧ m = 1 ∧ c = c9)) (fun s14 s7 W => 1 - (intOf s14).toNat)
  case atStart => exact ⟨0, none, 0, 0, Or.inl rfl, rfl, rfl, fun _ => ⟨rfl, rfl, rfl, rfl⟩, fun h => absurd h (by decide)⟩
  case round =>
    obtain ⟨k, a, m, c, hk, rfl, rfl, H0, H1⟩ := hrel
    rcases hk with rfl | rfl
    · obtain ⟨hw, rfl, rfl, rfl⟩ : wr = w ∧ a = none ∧ m = 0 ∧ c = 0 := H0.out rfl
      rw [hw]
      clear hw H0 H1
      go_wp2_with fail
      go_region_law (refine step_app rfl _ _ 91 rfl (.slice none 0 0) (.slice (some ⟨w.heap.size + 1, 0, none⟩) 1 1) (.slice (some ⟨g9, 0, none⟩) 1 c9) W9 (by simp [Act.eval, Act.put]) (by simp [Act.eval, Act.put]) (hrun _) ?_)
      all_goals
        go_wp2_with fail
        go_roundw
        case rel => exact ⟨1, some ⟨g9, 0, none⟩, 1, c9, Or.inr rfl, rfl, rfl, fun h => absurd h (by decide), fun _ => ⟨by simp, rfl, rfl, rfl⟩⟩
        case measure => simp [intOf]
    · obtain ⟨hw, rfl, rfl, rfl⟩ : wr = W9 ∧ a = some ⟨g9, 0, none⟩ ∧ m = 1 ∧ c = c9 := H1.out rfl
      rw [hw]
      clear hw H0 H1
      go_wp2_with fail
      go_loopw [35, 7] (fun s35 s7 W => s35 = .int .i64 0 ∧ s7 = .slice (some ⟨g9, 0, none⟩) 1 c ∧ Hid (W = W9)) (fun s35 s7 W => 0)
      case atStart => exact ⟨rfl, rfl, rfl⟩
      case round =>
        obtain ⟨rfl, rfl, HW⟩ := hrel
        rw [HW.out]
        go_wp2_with fail
        go_ret
        exact ⟨some ⟨g9, 0, none⟩, c, rfl, HL.out.gots, HB9.out⟩
set_option maxHeartbeats 2000000 in
theorem put_nil (p : Nat) (w : World) :
    Calls Tryz.prog 47 #[.pointer (some ⟨p, 0, none⟩), .slice none 0 0] w fun e w' => e = .returned (.tuple #[]) ∧ w' = w := by
  go_enter Tryz.func47, Tryz.ntmps47
  go_wp2_with fail
  go_loopw [8] (fun s8 W => s8 = .int .i64 0 ∧ Hid (W = w)) (fun s8 W => 0)
  case atStart => exact ⟨rfl, rfl⟩
  case round =>
    obtain ⟨rfl, HW⟩ := hrel
    rw [HW.out]
    go_wp2_with fail
    go_end0
    exact ⟨rfl, rfl⟩
end Go.Proofs.YtokepgnnepjiaaaGreat

/- What process 0 gets. -/
namespace Go.Proofs.YtokepgnnepjiaaaGreat
set_option maxRecDepth 100000
open Go.RowKit Lg Nl Go.Maps
set_option linter.unusedVariables false
set_option linter.unusedSimpArgs false

set_option maxHeartbeats 2000000 in
/-- nothing comes: nothing is got -/
theorem gets_none2 (F : Nat) (ea : Option Addr) (ec : Nat) (sa : Option Addr) (sc : Nat) (w : World) :
    Calls Tryz.prog 44 #[.pointer (some ⟨F, 0, none⟩), .slice sa 0 sc, .slice ea 0 ec] w fun e w' => e = .returned (.slice none 0 0) ∧ w' = w := by
  go_enter Tryz.func44, Tryz.ntmps44
  go_wp2_with fail
  go_loopw [14, 7] (fun s14 s7 W => s14 = .int .i64 0 ∧ s7 = .slice none 0 0 ∧ Hid (W = w)) (fun s14 s7 W => 0)
  case atStart => exact ⟨rfl, rfl, rfl⟩
  case round =>
    obtain ⟨rfl, rfl, HW⟩ := hrel
    rw [HW.out]
    clear HW
    go_wp2_with fail
    go_loopw [35, 7] (fun s35 s7 W => s35 = .int .i64 0 ∧ s7 = .slice none 0 0 ∧ Hid (W = w)) (fun s35 s7 W => 0)
    case atStart => exact ⟨rfl, rfl, rfl⟩
    case round =>
      obtain ⟨rfl, rfl, HW⟩ := hrel
      rw [HW.out]
      go_wp2_with fail
      go_ret
      exact ⟨rfl, rfl⟩
set_option maxHeartbeats 4000000 in
/-- a change of its stimulus comes: process 0 gets it -/
theorem gets0_one2 (ea : Option Addr) (ec : Nat) (F bN cN bE cE bP bT cT bI bL cL bS cS : Nat) (h tm : Int) (v : ByteArray) (ia : Option Addr) (ic : Nat) (w : World) (hF : Fc0 h F bN cN bE cE bP bT cT bI bL cL ia ic w) (s0 : w.cell? ⟨bS, 0, none⟩ = some (.int .i64 tm)) (s1 : w.cell? ⟨bS, 1, none⟩ = some (.int .i64 0)) (s2 : w.cell? ⟨bS, 2, none⟩ = some (.string v)) :
    Calls Tryz.prog 44 #[.pointer (some ⟨F, 0, none⟩), .slice (some ⟨bS, 0, none⟩) 1 cS, .slice ea 0 ec] w fun e w' => ∃ a c, e = .returned (.slice a 1 c) ∧ Hid (GotsAt w' a [v]) ∧ Below w.heap.size w w' := by
  have HF : Hid (Fc0 h F bN cN bE cE bP bT cT bI bL cL ia ic w) := hF
  have hbs : w.heap.size ≤ ((((w.alloc (.cells #[.int .i64 tm, .int .i64 0, .string v] 74)).alloc (.cells #[.int .i64 0, .string v] 132)).drew).heap.size) := by simp [World.drew]; omega
  obtain ⟨g9, c9, W9, hrun, HO9, HG9, HL9⟩ := appX infoGot Tryz.underlying91 rfl (by decide) (World.ownsRow_nil ((w.alloc (.cells #[.int .i64 tm, .int .i64 0, .string v] 74)).alloc (.cells #[.int .i64 0, .string v] 132)).drew w.heap.size 132 2) (w.heap.size + 1) (news := [.int .i64 0, .string v]) rfl (fun j u hj => new2 (w.alloc (.cells #[.int .i64 tm, .int .i64 0, .string v] 74)) _ _ _ _ (by simp) j u hj) (by intro u hu; simp at hu; rcases hu with rfl | rfl <;> rfl) (by omega) (by decide) hbs
  have HB9 : Hid (Below w.heap.size w W9) := belG (belA (belA (Below.refl _ _) _) _).drew HG9.out (fun k e => by cases e)
  have HL : Hid (Gl w.heap.size (.slice (some ⟨g9, 0, none⟩) 1 c9) [v] W9) := ⟨HO9.out⟩
  have f5 := hF.f5
  have t0 := hF.t0
  have lT := World.block_lt_of_cell? w ⟨bT, 0, none⟩ t0
  have lF := World.block_lt_of_cell? w ⟨F, 5, none⟩ f5
  have lS := World.block_lt_of_cell? w ⟨bS, 0, none⟩ s0
  clear hF HO9 HG9 HL9 hbs
  go_enter Tryz.func44, Tryz.ntmps44
  go_wp2_with fail
  go_loopw [14, 7] (fun s14 s7 W => ∃ (k : Int) (a : Option Addr) (m c : Nat), (k = 0 ∨ k = 1) ∧ s14 = .int .i64 k ∧ s7 = .slice a m c ∧ Hid (k = 0 → W = w ∧ a = none ∧ m = 0 ∧ c = 0) ∧ Hid (k = 1 → W = W9 ∧ a = some ⟨g9, 0, none⟩ ∧ m = 1 ∧ c = c9)) (fun s14 s7 W => 1 - (intOf s14).toNat)
  case atStart => exact ⟨0, none, 0, 0, Or.inl rfl, rfl, rfl, fun _ => ⟨rfl, rfl, rfl, rfl⟩, fun h => absurd h (by decide)⟩
  case round =>
    obtain ⟨k, a, m, c, hk, rfl, rfl, H0, H1⟩ := hrel
    rcases hk with rfl | rfl
    · obtain ⟨hw, rfl, rfl, rfl⟩ : wr = w ∧ a = none ∧ m = 0 ∧ c = 0 := H0.out rfl
      rw [hw]
      clear hw H0 H1
      go_wp2_with fail
      go_region_law (refine step_app rfl _ _ 91 rfl (.slice none 0 0) (.slice (some ⟨w.heap.size + 1, 0, none⟩) 1 1) (.slice (some ⟨g9, 0, none⟩) 1 c9) W9 (by simp [Act.eval, Act.put]) (by simp [Act.eval, Act.put]) (hrun _) ?_)
      all_goals
        go_wp2_with fail
        go_roundw
        case rel => exact ⟨1, some ⟨g9, 0, none⟩, 1, c9, Or.inr rfl, rfl, rfl, fun h => absurd h (by decide), fun _ => ⟨by simp, rfl, rfl, rfl⟩⟩
        case measure => simp [intOf]
    · obtain ⟨hw, rfl, rfl, rfl⟩ : wr = W9 ∧ a = some ⟨g9, 0, none⟩ ∧ m = 1 ∧ c = c9 := H1.out rfl
      rw [hw]
      clear hw H0 H1
      go_wp2_with fail
      go_loopw [35, 7] (fun s35 s7 W => s35 = .int .i64 0 ∧ s7 = .slice (some ⟨g9, 0, none⟩) 1 c ∧ Hid (W = W9)) (fun s35 s7 W => 0)
      case atStart => exact ⟨rfl, rfl, rfl⟩
      case round =>
        obtain ⟨rfl, rfl, HW⟩ := hrel
        rw [HW.out]
        go_wp2_with fail
        go_ret
        exact ⟨some ⟨g9, 0, none⟩, c, rfl, HL.out.gots, HB9.out⟩
end Go.Proofs.YtokepgnnepjiaaaGreat
