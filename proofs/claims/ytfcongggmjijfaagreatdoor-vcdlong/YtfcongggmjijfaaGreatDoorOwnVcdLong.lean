/-
  A dump of 3,900 to 4,155 changes of 256 bits is written or refused as the document says, and bytes that are too many are not read. Of any number.
-/
import Derived.Test.YtfcongggmjijfaaGreatDoorCards
import Derived.Test.YtfcongggmjijfaaGreatDoorTie
import Derived.Test.YtfcongggmjijfaaGreatDoorDN
import Derived.Test.YtfcongggmjijfaaGreatDoorUU
import Derived.ProofKit
import Derived.OpenShut
import Derived.ShutString
import Derived.ChangeOld
import Derived.Below
import Derived.Deep.DeepHandedRow
import Derived.Lib.LaidTab
import Derived.LaidMore
import Derived.LaidSub
import Derived.LaidHandle
import Derived.Lay
import Derived.Deep.DeepWitnessRowRef
namespace Go.Proofs.YtfcongggmjijfaaGreatDoor
set_option maxRecDepth 100000
namespace vcdLong
open Go.ChangeShapes Go.WideShapes Go.ChangeAt Go.RowKit
open Go.ChangeMaps (open_string shut_string)
set_option linter.unusedVariables false

theorem own : ownKnob Tryz.prog.godebug = none := by kernel_rfl
theorem laidOut : laidOutB Tryz.prog = true := by kernel_rfl
theorem gPow : ∃ g, Tryz.prog.globalNamed "internal\x2fstrconv.uint64pow10" = some g ∧ (Tryz.prog.globals[g]?).map (·.type) = some 109 := by
  first | exact ⟨0, by kernel_rfl, by kernel_rfl⟩ | exact ⟨1, by kernel_rfl, by kernel_rfl⟩ | exact ⟨2, by kernel_rfl, by kernel_rfl⟩ | exact ⟨3, by kernel_rfl, by kernel_rfl⟩ | exact ⟨4, by kernel_rfl, by kernel_rfl⟩ | exact ⟨5, by kernel_rfl, by kernel_rfl⟩
theorem bds {n : Int} (h : (Lit.int .i64 n).wf = true) : -9223372036854775808 ≤ n ∧ n ≤ 9223372036854775807 := by
  unfold Lit.wf at h
  rw [Bool.and_eq_true] at h
  exact ⟨of_decide_eq_true h.1, of_decide_eq_true h.2⟩
theorem cT : Tryz.prog.cellsOf 109 = 20 := by kernel_rfl
theorem cE : Tryz.prog.cellsOf 97 = 1 := by kernel_rfl
/-- what the row's list gives: the table of tens -/
theorem table {W : World} (h : laidMetH Tryz.prog Rows.vcdLongRow.laid W) : PowT W := by
  have h2 := (laidMetH_iff.1 h).1.filter (fun x => x.1 == "internal\x2fstrconv.uint64pow10")
  obtain ⟨g, hg, hgt⟩ := gPow
  exact Lib.tabIs_of_head (rest := []) hg hgt Tryz.underlying109 Tryz.underlying97 cE cT h2

set_option maxRecDepth 100000 in
theorem contract (H : Type) (enc : TypeId × Value → H) (W : World) (base : Nat) (args : Array Value) (ds gs : List (DataW H)) (before : List MemPlace)
    (hval0 : ∀ (j : Nat) t v, Tryz.f5.params[j]? = some t → args[j]? = some v → Value.okWide Tryz.prog W .any base t v)
    (hW : DataW.Whole enc Tryz.prog Tryz.f5.params.toList Rows.vcdLongSpec.vars false W args.toList ds gs before) (hL : laidMetH Tryz.prog Rows.vcdLongRow.laid W)
    : Calls Tryz.prog 5 args W fun e W' => ∃ v, e = .returned v ∧ Rows.vcdLongSpec.post enc Tryz.prog Tryz.f5 false true false false W args v W' := by
  have hval : ∀ (j : Nat) t v, Tryz.f5.params[j]? = some t → args[j]? = some v → Value.okWide Tryz.prog W .any base t v := hval0
  have hT : PowT W := table hL
  have hW' := hW
  obtain ⟨p, q, hA0, hV, rfl, hfz, hnd⟩ := hW
  have hA : DataW.TrodAll enc Tryz.prog W 0 (fun _ => true) true Tryz.f5.params.toList args.toList ds p := hA0
  rw [Tryz.params5] at hA hval
  obtain ⟨v0, vs0, d0, ds0, p0, q0, hargs, rfl, rfl, h0, r0⟩ := trodAll_cons hA
  obtain ⟨rfl, rfl, rfl⟩ := trodAll_nil r0
  obtain rfl : args = #[v0] := by cases args; simp_all
  obtain ⟨rfl, rfl⟩ := trodVars_none hV
  obtain ⟨a0, rfl, rfl, rfl, w0⟩ := open_int Tryz.underlying3 (hval 0 3 v0 rfl rfl) h0
  have b0 : -9223372036854775808 ≤ a0 ∧ a0 ≤ 9223372036854775807 := bds w0
  clear hA0 hval0
  simp only [List.append_nil] at hW'
  refine (VcdLong_c pd readL_c a0 W hT).mono fun e W' ⟨he, bel⟩ => ?_
  subst he
  exact ⟨_, rfl, _, _, _, [], _, [], hW', trodAll_mk1 (shut_bool Tryz.underlying4 _), (trodAll_cons_mk (shut_int Tryz.underlying3 w0) trodAll_mk0), rfl, bel.frame _, fun h => by cases h⟩

theorem laid_met (os : Os) : laidMet Tryz.prog Rows.vcdLongRow.laid ((World.laidAll Tryz.prog os Rows.vcdLongRow.laid).forCall (fun _ _ => 0) ⟨#[], #[.int .i64 0], []⟩).memory :=
  laidMet_laidAll _ (by kernel_rfl) (by kernel_rfl)
theorem reads (os : Os) {H : Type} (enc : TypeId × Value → H) : ∃ places, DataW.whole enc Tryz.prog ((World.laidAll Tryz.prog os Rows.vcdLongRow.laid).forCall (fun _ _ => 0) ⟨#[], #[.int .i64 0], []⟩).memory Tryz.f5.params.toList Rows.vcdLongSpec.vars false (#[.int .i64 0] : Array Value).toList 8 = some ([.lit (.int .i64 0)], [], places) :=
  ⟨[], by kernel_rfl⟩

set_option maxRecDepth 100000 in
theorem lifted (os : Os) (started : os.Started) (H : Type) (enc : TypeId × Value → H) (F : Stop.Interp) :
    ReturnsInHanded {} Tryz.checked os 5 .any ((OpenSpec.ofChange Rows.vcdLongSpec).preRow enc Tryz.prog Tryz.f5 Rows.vcdLongRow.domain false Rows.vcdLongRow.laid) (((OpenSpec.ofChange Rows.vcdLongSpec).at F).post enc Tryz.prog Tryz.f5 false true false false) := by
  obtain ⟨places, hx⟩ := reads os enc
  refine returnsInHanded_of_row (C := Tryz.checked) (s := (OpenSpec.ofChange Rows.vcdLongSpec)) own started (by kernel_rfl) Tryz.func5
    (witness_row_atRef (enc := enc) (C := Tryz.checked) false (World.laidAll Tryz.prog os Rows.vcdLongRow.laid) #[.int .i64 0] (World.laidAll_os _ _ _) (by kernel_rfl) (by kernel_rfl) (by kernel_rfl)
      (OpenSpec.preRow_of_cond 8 hx (by kernel_rfl) (fun k hk => by cases hk) (by kernel_rfl) (laid_met os))) ?_
  intro W base args ds gs before hval hW _ hcond hsz hL _ _
  exact contract H enc W base args ds gs before hval hW hL

theorem said : Rows.vcdLongRow.holds Tryz.pinned (OpenSpec.ofChange Rows.vcdLongSpec) :=
  OpenClaim.holds_of_cond 5 Tryz.f5 rfl rfl rfl rfl rfl rfl rfl ⟨rfl, rfl, rfl, rfl, rfl⟩ rfl rfl rfl rfl rfl (by kernel_rfl) Tryz.func5 (by kernel_rfl)
    (of_decide_eq_true (by kernel_rfl)) (by unfold Func.isWrapper; first | (rw [if_pos (by decide +kernel)]; kernel_rfl) | (rw [if_neg (by decide +kernel)]; exact ⟨rfl, rfl⟩))
    (fun os started H enc _ F => by rw [OpenClaim.pre_eq_preRow]; exact lifted os started H enc F)

theorem plain (f : FuncId) (fn : Func) (hf : Tryz.pinned.checked.prog.funcNamed "silkworm\x2fsilkwormlaw19.VcdLong" = some f) (hfn : Tryz.pinned.checked.prog.funcs[f]? = some fn) :
    true = Tryz.pinned.checked.prog.looks [] ∧ ∀ (j : Nat) t, fn.params[j]? = some t → Tryz.pinned.checked.prog.wantsStandIn t = false := by
  obtain rfl : f = 5 := Option.some.inj ((show Tryz.prog.funcNamed "silkworm\x2fsilkwormlaw19.VcdLong" = some 5 by kernel_rfl).symm.trans hf) |>.symm
  obtain rfl : fn = Tryz.f5 := (Option.some.inj (Tryz.func5.symm.trans hfn)).symm
  refine ⟨by kernel_rfl, fun j t ht => ?_⟩
  rw [Tryz.params5] at ht
  have hm : t ∈ #[3] := Array.mem_of_getElem? ht
  have hall : (#[3] : Array TypeId).all (fun t => !Tryz.prog.wantsStandIn t) = true := by kernel_rfl
  have hb := Array.all_eq_true_iff_forall_mem.1 hall t hm
  have hb2 : (!Tryz.prog.wantsStandIn t) = true := hb
  show Tryz.prog.wantsStandIn t = false
  cases hx : Tryz.prog.wantsStandIn t with
  | false => rfl
  | true => rw [hx] at hb2; cases hb2
end vcdLong

theorem VcdLong_holds : Rows.VcdLongCardSaid :=
  Claim7.holds_tied_plain_at .later [] _ _ _ _ vcdLong.said (fun _ h => by cases h) (by kernel_rfl) (fun _ h => by cases h) vcdLong_row_tie rfl ⟨rfl, rfl⟩ (by kernel_rfl) rfl vcdLong.plain (by kernel_rfl)
#print axioms VcdLong_holds
end Go.Proofs.YtfcongggmjijfaaGreatDoor
