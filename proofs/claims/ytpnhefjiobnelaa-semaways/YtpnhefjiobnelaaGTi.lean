/- Texts NsY NsZ NtA, joined: what each part says stands ahead of it. -/
import Derived.Test.YtpnhefjiobnelaaGTh
/- Layer 7 of the program: the names that are sure: none, or one. -/
namespace Go.Proofs.Ytpnhefjiobnelaa
open Go.RowKit Lg Rp Go.Maps
set_option linter.unusedVariables false
set_option linter.unusedSimpArgs false

def suD (so : Option (List UInt8)) : DataW Unit := match so with
  | none => .map []
  | some x => (DataW.map []).put (.string x) (.lit (.int .i64 3))
def suF (so : Option (List UInt8)) (x : List UInt8) : Option Int := if so = some x then some 3 else none
/-- the sure names' map, and how many were ever put -/
def Su (ub n : Nat) (so : Option (List UInt8)) (w : World) : Prop := sMp ub n (suD so) w
theorem Su.keep {ub n : Nat} {so : Option (List UInt8)} {w w' : World} (h : Su ub n so w) (hb : w'.heap[ub]? = w.heap[ub]?) : Su ub n so w' := by
  obtain ⟨es, clock, h1, h2⟩ := h
  exact ⟨es, clock, hb.trans h1, h2⟩
theorem Su.lt {ub n : Nat} {so : Option (List UInt8)} {w : World} (h : Su ub n so w) : ub < w.heap.size := World.ownsMap.lt h
theorem suN (so : Option (List UInt8)) : sNm (suD so) (suF so) := by
  have h0 : sNm (.map [] : DataW Unit) (fun _ => none) := ⟨isMap_empty, fun x => ⟨fun _ => rfl, (fun b h => by cases h)⟩⟩
  cases so with
  | none =>
    have e : suF none = fun _ => none := by funext x; unfold suF; rw [if_neg (by simp)]
    rw [e]; exact h0
  | some x =>
    have e : suF (some x) = sPut (fun _ => none) x 3 := by
      funext y
      unfold suF sPut
      by_cases h : y = x
      · subst h; rw [if_pos rfl, if_pos rfl]
      · rw [if_neg (by intro e; injection e with e; exact h e.symm), if_neg h]
    rw [e]; exact sNm_put h0 x 3
set_option maxRecDepth 100000 in
theorem Su.look {ub n : Nat} {so : Option (List UInt8)} {w : World} (h : Su ub n so w) (x : ByteArray) (hx : x.size ≤ maxLen) : (Instr.lookup 62 (.map (some ub)) (.string x) false).run Try.prog w = .ok (.int .i64 ((suF so (L x)).getD 0)) w := by
  have hf := suN so
  obtain ⟨v, ps, hrun, hv⟩ := World.ownsMap.lookup h sLaw Try.underlying62 (sZero w) (plainElem_int Try.underlying3 (by decide)) (sKey hx)
  obtain ⟨c, rfl, hc, _⟩ := plainElem_int_inv Try.underlying3 hv
  have hc1 := congrArg Prod.fst hc
  simp only at hc1
  cases hk : suF so (L x) with
  | none =>
    have hh := (hf.2 (L x)).1 hk
    rw [atKey_of_not_has hh] at hc1
    injection hc1 with h1
    injection h1 with _ h1
    rw [hrun, ← h1]; rfl
  | some m =>
    have hh := ((hf.2 (L x)).2 m hk).2
    rw [hh] at hc1
    injection hc1 with h1
    injection h1 with _ h1
    rw [hrun, ← h1]; rfl
theorem su_del (x : List UInt8) : (suD (some x)).del (.string x) = suD none := by
  unfold suD
  simp [DataW.put, DataW.del, DataW.insert, Lit.sameKey]
set_option maxRecDepth 100000 in
set_option maxHeartbeats 1000000 in
/-- the first sure name is put -/
theorem sAddS {ub n : Nat} {w : World} (h : Su ub n none w) (x : ByteArray) (hx : x.size ≤ maxLen) (hn : n < 1000000) :
    Calls Try.prog 35 #[.map (some ub), .string x, .int .i64 3] w fun e w' => e = .returned (.bool true) ∧ Su ub (n + 1) (some (L x)) w' ∧ Kp ub w w' := by
  have hrun := h.look x hx
  have e0 : suF none (L x) = none := by unfold suF; rw [if_neg (by simp)]
  rw [e0] at hrun
  replace hrun : (Instr.lookup 62 (.map (some ub)) (.string x) false).run Try.prog w = .ok (.int .i64 0) w := hrun
  have hm : w.ownsMap Try.prog 9 (plainElem Try.prog 3) ub n (.map []) := h
  clear h e0
  go_enter Try.func35, Try.ntmps35
  go_wp2_with (first
    | (at_mapUpdate; refine wpList_mapUpdate_own _ rfl _ _ _ 62 rfl 9 3 sLaw Try.underlying62 _ ub n _ rfl hm (by unfold maxLen; omega) _ _ _ rfl rfl (sKey hx) _ [] (plainElem_int Try.underlying3 (WalkArith.wf_i64 (by omega))) ?_; intro w1 hown1 hgrow1))
  go_ret
  exact ⟨rfl, hown1, ⟨hgrow1.os, hgrow1.tape, hgrow1.output, hgrow1.size, fun j hj hb => hgrow1.block j hj (by intro e; injection e with e; exact hb e)⟩⟩
set_option maxRecDepth 100000 in
set_option maxHeartbeats 1000000 in
theorem sAddS2 {ub n : Nat} {w : World} (x : ByteArray) (h : Su ub n (some (L x)) w) (hx : x.size ≤ maxLen) :
    Calls Try.prog 35 #[.map (some ub), .string x, .int .i64 3] w fun e w' => e = .returned (.bool false) ∧ w' = w := by
  have hrun := h.look x hx
  have e0 : suF (some (L x)) (L x) = some 3 := by unfold suF; rw [if_pos rfl]
  rw [e0] at hrun
  replace hrun : (Instr.lookup 62 (.map (some ub)) (.string x) false).run Try.prog w = .ok (.int .i64 3) w := hrun
  clear h e0
  go_enter Try.func35, Try.ntmps35
  go_wp2
  go_ret
  exact ⟨rfl, rfl⟩
end Go.Proofs.Ytpnhefjiobnelaa

/- Layer 7 of the program: one of several ways. -/
namespace Go.Proofs.Ytpnhefjiobnelaa
open Go.RowKit Lg Rp Go.Maps
set_option linter.unusedVariables false
set_option linter.unusedSimpArgs false

/-- a path under way: no name is sure, or one -/
structure Pz (cb mb k ab tb ub n : Nat) (tg : Asc) (so : Option (List UInt8)) (w : World) : Prop where
  c : Cb cb mb k w
  h : Ph cb ab tb ub tg w
  u : Su ub n so w
  l3 : tb < ub
  l4 : ub ≠ ab
theorem Pz.at_ {cb mb k ab tb ub n : Nat} {tg : Asc} {so : Option (List UInt8)} {w : World} (h : Pz cb mb k ab tb ub n tg so w) : w.cell? ⟨ab, 0, none⟩ = some (.pointer (some ⟨cb, 0, none⟩)) ∧ w.cell? ⟨ab, 1, none⟩ = some (.map (some tb)) ∧ w.cell? ⟨ab, 2, none⟩ = some (.map (some ub)) ∧ ab < w.heap.size :=
  ⟨by rw [Lib.cell_of_heap h.h.blk]; rfl, by rw [Lib.cell_of_heap h.h.blk]; rfl, by rw [Lib.cell_of_heap h.h.blk]; rfl, heap_lt h.h.blk⟩
theorem Pz.look {cb mb k k' ab tb ub n : Nat} {tg : Asc} {so : Option (List UInt8)} {w w' : World} (h : Pz cb mb k ab tb ub n tg so w) (hc : Cb cb mb k' w') (hk : Kp cb w w') : Pz cb mb k' ab tb ub n tg so w' := by
  have h1 := h.h.l1
  have h2 := h.l3
  exact ⟨hc, h.h.kp hk, h.u.keep (hk.block ub h.u.lt (by omega)), h2, h.l4⟩
theorem Pz.sure {cb mb k ab tb ub n n' : Nat} {tg : Asc} {so so' : Option (List UInt8)} {w w' : World} (h : Pz cb mb k ab tb ub n tg so w) (hu : Su ub n' so' w') (hk : Kp ub w w') : Pz cb mb k ab tb ub n' tg so' w' := by
  have h1 := h.h.l1
  have h2 := h.l3
  have h3 := h.l4
  exact ⟨h.c.keep (hk.block cb (heap_lt h.c) (by omega)), ⟨(hk.block ab (heap_lt h.h.blk) (by omega)).trans h.h.blk, h.h.t.keep (hk.block tb h.h.t.lt (by omega)), h1, h.h.l2⟩, hu, h2, h3⟩
theorem Pz.below {cb mb k ab tb ub n : Nat} {tg : Asc} {so : Option (List UInt8)} {w w' : World} (h : Pz cb mb k ab tb ub n tg so w) (hb : Below w.heap.size w w') : Pz cb mb k ab tb ub n tg so w' :=
  h.look (h.c.keep (hb.block cb (heap_lt h.c))) (Kp.of hb)
set_option maxRecDepth 100000 in
set_option maxHeartbeats 1000000 in
theorem zRead {cb mb k k' ab tb ub n g o F : Nat} {tg : Asc} {so : Option (List UInt8)} {w : World} {x : List Dc} {vs : List Value} (hq : rM tg F (.ex x) k = some k') (h : Pz cb mb k ab tb ub n tg so w) (hX : Xa w cb g o x vs) :
    Calls Try.prog 92 #[.pointer (some ⟨ab, 0, none⟩), .pointer (some ⟨g, o, none⟩)] w fun e w' => e = .returned (.tuple #[]) ∧ Pz cb mb k' ab tb ub n tg so w' ∧ Kp cb w w' := by
  have hcl := heap_lt h.c
  have HN := fun o' => sRdC (cb := cb) (mb := mb) (ab := ab) (tb := tb) (ub := ub) (bx := w.heap.size) (tg := tg) F F (Nat.le_refl _) x k k' hq (w.alloc o') g o vs (h.c.keep (bxS.block cb hcl)) (hX.kp (Kp.of bxS))
  have HC := fun o' => (h.below (bxS (o := o'))).h
  have HL := fun o' => heap_alloc_last w o'
  have hne : w.heap.size ≠ cb := by omega
  have HP : Hid _ := h
  have hcell : ∀ o', (w.alloc o').cell? ⟨ab, 0, none⟩ = some (.pointer (some ⟨cb, 0, none⟩)) := fun o' => (h.below (bxS (o := o'))).at_.1
  have hlt : ab < w.heap.size := h.at_.2.2.2
  have hmf : ∀ (fn : Fn) (first cap : Array Value) (w : World), (Instr.makeFunc fn first cap).run Try.prog w = .ok (.func fn first cap) w := fun _ _ _ _ => rfl
  clear hq h hX
  go_enter Try.func92, Try.ntmps92
  go_wp2_with (first
    | (go_at_call 77; refine (HN _ (HL _) hne (HC _)).mono ?_; rintro e w1 ⟨rfl, hc1, hk1⟩))
  go_end0
  exact ⟨rfl, (HP.out.below bxS).look hc1 hk1, (Kp.of bxS).trans hk1⟩
set_option maxRecDepth 100000 in
set_option maxHeartbeats 1000000 in
theorem zAssignedY {cb mb k ab tb ub n : Nat} {tg : Asc} {w : World} (h : Pz cb mb k ab tb ub n tg none w) (nm : List UInt8) (hnl : nm.length ≤ 1000000) (hn : n < 1000000) :
    Calls Try.prog 93 #[.pointer (some ⟨ab, 0, none⟩), .string (S nm)] w fun e w' => (∃ v, e = .returned v ∧ Fr w' w.heap.size [nm] v) ∧ Pz cb mb k ab tb ub (n + 1) tg (some nm) w' ∧ Kp ub w w' := by
  have HA := sAddS h.u (S nm) (by rw [size_S]; unfold maxLen; omega) hn
  rw [L_S] at HA
  obtain ⟨c0, c1, c2, cl⟩ := h.at_
  have HP : Hid _ := h
  obtain ⟨sx, hsx⟩ : ∃ sx, sx = S nm := ⟨_, rfl⟩
  rw [← hsx] at HA ⊢
  have HSX : Hid _ := hsx
  clear h hsx
  go_enter Try.func93, Try.ntmps93
  go_wp2_with (first
    | (go_at_call 35; refine HA.mono ?_; rintro e w1 ⟨rfl, hn1, hk1⟩; have hp1 := HP.out.sure hn1 hk1))
  go_ret
  refine ⟨⟨_, rfl, Or.inr ⟨nm, w1.heap.size, 1, rfl, rfl, hk1.size, Nat.le_refl _, by simp, ?_⟩⟩, hp1.below bxS, hk1.trans (Kp.of bxS)⟩
  rw [Lib.cell_of_heap (heap_alloc_last w1 _), ← HSX.out]; rfl
set_option maxRecDepth 100000 in
set_option maxHeartbeats 1000000 in
theorem zAssignedN {cb mb k ab tb ub n : Nat} {tg : Asc} {w : World} (nm : List UInt8) (h : Pz cb mb k ab tb ub n tg (some nm) w) (hnl : nm.length ≤ 1000000) :
    Calls Try.prog 93 #[.pointer (some ⟨ab, 0, none⟩), .string (S nm)] w fun e w' => e = .returned (.slice none 0 0) ∧ w' = w := by
  have hu : Su ub n (some (L (S nm))) w := by rw [L_S]; exact h.u
  have HA := sAddS2 (S nm) hu (by rw [size_S]; unfold maxLen; omega)
  obtain ⟨c0, c1, c2, cl⟩ := h.at_
  obtain ⟨sx, hsx⟩ : ∃ sx, sx = S nm := ⟨_, rfl⟩
  rw [← hsx] at HA ⊢
  clear h hu hsx
  go_enter Try.func93, Try.ntmps93
  go_wp2_with (first
    | (go_at_call 35; refine HA.mono ?_; rintro e w1 ⟨rfl, hw⟩; have hw2 := hw.symm; subst hw2))
  go_ret
  exact ⟨rfl, rfl⟩
end Go.Proofs.Ytpnhefjiobnelaa

/- Layer 7 of the program: one of several ways, gone. -/
namespace Go.Proofs.Ytpnhefjiobnelaa
open Go.RowKit Lg Rp Go.Maps
set_option linter.unusedVariables false
set_option linter.unusedSimpArgs false

theorem turnKp {ub : Nat} {w w' : World} (h : w.mapTurned w' ub) : Kp ub w w' := by
  obtain ⟨es, clock, es', clock', hb, rfl⟩ := h
  exact ⟨rfl, rfl, rfl, by simp [ChangeMaps.setBlock], fun i _ hi => ChangeMaps.heap_setBlock_other hb _ (fun e => hi (by rw [e]))⟩
set_option maxRecDepth 100000 in
set_option maxHeartbeats 2000000 in
theorem zWay0 {cb mb k' ab tb ub n' m cp : Nat} {tg : Asc} {so : Option (List UInt8)} {ao : Option Addr} {w : World} (HS : Calls Try.prog 88 #[.pointer (some ⟨ab, 0, none⟩), .slice ao m cp] w fun e w' => (∃ v, e = .returned v ∧ Fr w' w.heap.size [] v) ∧ Pz cb mb k' ab tb ub n' tg so w' ∧ Kz cb ub ub w w') :
    Calls Try.prog 95 #[.pointer (some ⟨ab, 0, none⟩), .slice ao m cp] w fun e w' => e = .returned (.slice none 0 0) ∧ Pz cb mb k' ab tb ub n' tg so w' ∧ Kz cb ub ub w w' := by
  go_enter Try.func95, Try.ntmps95
  go_wp2_with (first
    | (go_at_call 88; refine HS.mono ?_; rintro e w1 ⟨⟨v, rfl, ⟨_, rfl⟩ | ⟨x, gd, cp, hx, _⟩⟩, hp1, hk1⟩; rotate_left; exact absurd hx (by simp)))
  go_loopw [13] (fun v wr => v = .int .i64 0 ∧ Hid (wr = w1)) (fun _ _ => 0)
  case atStart => exact ⟨rfl, rfl⟩
  case round =>
    obtain ⟨rfl, HW⟩ := hrel
    have hwr := HW.out
    subst hwr
    clear HW
    go_wp2
    go_ret
    exact ⟨rfl, hp1, hk1⟩
set_option maxRecDepth 100000 in
set_option maxHeartbeats 2000000 in
theorem zWay1 {cb mb k' ab tb ub n' m cp : Nat} {tg : Asc} {x : List UInt8} {ao : Option Addr} {w : World} (hx : x.length ≤ 1000000) (hlo : ub < w.heap.size) (HS : Calls Try.prog 88 #[.pointer (some ⟨ab, 0, none⟩), .slice ao m cp] w fun e w' => (∃ v, e = .returned v ∧ Fr w' w.heap.size [x] v) ∧ Pz cb mb k' ab tb ub n' tg (some x) w' ∧ Kz cb ub ub w w') :
    Calls Try.prog 95 #[.pointer (some ⟨ab, 0, none⟩), .slice ao m cp] w fun e w' => (∃ v, e = .returned v ∧ Fr w' w.heap.size [x] v) ∧ Pz cb mb k' ab tb ub n' tg none w' ∧ Kz cb ub ub w w' := by
  have HS2 : Calls Try.prog 88 #[.pointer (some ⟨ab, 0, none⟩), .slice ao m cp] w fun e w' => ∃ gd cp1, e = .returned (.slice (some ⟨gd, 0, none⟩) 1 cp1) ∧ w.heap.size ≤ gd ∧ 1 ≤ cp1 ∧ gd < w'.heap.size ∧ w'.cell? ⟨gd, 0, none⟩ = some (.string (S x)) ∧ Pz cb mb k' ab tb ub n' tg (some x) w' ∧ Kz cb ub ub w w' :=
    HS.mono fun e w' ⟨⟨v, h1, h2⟩, h3, h4⟩ => by
      rcases h2 with ⟨h, _⟩ | ⟨y, gd, cp1, hy, rfl, g1, g2, g3, g4⟩
      · cases h
      · injection hy with hy; subst hy; exact ⟨gd, cp1, h1, g1, g2, g3, g4, h3, h4⟩
  have hxm : (S x).size ≤ maxLen := by rw [size_S]; unfold maxLen; omega
  have hkey := sKey hxm
  rw [L_S] at hkey
  clear HS
  obtain ⟨sx, hsx⟩ : ∃ sx, sx = S x := ⟨_, rfl⟩
  rw [← hsx] at HS2 hkey
  have HSX : Hid _ := hsx
  clear hsx hxm
  go_enter Try.func95, Try.ntmps95
  go_wp2_with (first
    | (go_at_call 88; refine HS2.mono ?_; rintro e w1 ⟨gd, cp1, rfl, g1, g2, g3, g4, hp1, hk1⟩))
  go_loopw [13] (fun v wr => (v = .int .i64 0 ∧ wr = w1) ∨ (v = .int .i64 1 ∧ Hid (Pz cb mb k' ab tb ub n' tg none wr ∧ Kp ub w1 wr))) (fun v _ => 1 - (intOf v).toNat)
  case atStart => exact Or.inl ⟨rfl, rfl⟩
  case round =>
    rcases hrel with ⟨rfl, rfl⟩ | ⟨rfl, HW⟩
    · obtain ⟨c0, c1, c2, cl⟩ := hp1.at_
      have hown : wr.ownsMap Try.prog 9 (plainElem Try.prog 3) ub n' (suD (some x)) := hp1.u
      go_wp2_with (first
        | (at_delete; refine wpList_delete_own _ rfl _ _ 62 9 rfl 3 sLaw Try.underlying62 _ ub n' _ rfl hown _ _ rfl hkey ?_; intro w2 hown2 hturn2; rw [su_del] at hown2))
      go_roundw
      case rel =>
        have hk2 := turnKp hturn2
        exact Or.inr ⟨rfl, hp1.sure hown2 hk2, hk2⟩
      case measure => simp [intOf]
    · have hgu : gd ≠ ub := by omega
      go_wp2
      go_ret
      refine ⟨⟨_, rfl, Or.inr ⟨x, gd, cp1, rfl, rfl, g1, g2, Nat.lt_of_lt_of_le g3 HW.out.2.size, ?_⟩⟩, HW.out.1, hk1.trans (Kz.of2 HW.out.2)⟩
      rw [World.cell?_of_block (w := w1) (a := ⟨gd, 0, none⟩) (HW.out.2.block gd g3 hgu), g4, HSX.out]
end Go.Proofs.Ytpnhefjiobnelaa
