/-
  For all bytes up to 2^14, or too many: Read tells the waveform of them as the document's reader does, or that they are no dump. Condition: the library's tables and errors lie as the program's text lays them (the card ties them).
-/
import Derived.Test.YtodpljgajjcdoaaGreatDoorCards
import Derived.Test.YtodpljgajjcdoaaGreatDoorTie
import Derived.Test.YtodpljgajjcdoaaGreatDoorHH
import Derived.Test.YtodpljgajjcdoaaGreatDoorGUr
import Derived.ProofKit
import Derived.OpenShut
import Derived.ShutString
import Derived.ChangeOld
import Derived.Below
import Derived.Deep.DeepHandedRow
import Derived.Lib.LaidTab
import Derived.LaidMore
import Derived.LaidSub
import Derived.LaidHandle
import Derived.Lay
import Derived.Deep.DeepWitnessRowRef
import Derived.Stop.LaidErr
namespace Go.Proofs.YtodpljgajjcdoaaGreatDoor
set_option maxRecDepth 100000
namespace vcdReads
open Go.ChangeShapes Go.WideShapes Go.ChangeAt Go.RowKit
open Go.ChangeMaps (open_string shut_string)
set_option linter.unusedVariables false

theorem own : ownKnob Tryz.prog.godebug = none := by kernel_rfl
theorem laidOut : laidOutB Tryz.prog = true := by kernel_rfl
theorem gPow : ∃ g, Tryz.prog.globalNamed "internal\x2fstrconv.uint64pow10" = some g ∧ (Tryz.prog.globals[g]?).map (·.type) = some 125 := ⟨(Tryz.prog.globalNamed "internal\x2fstrconv.uint64pow10").getD 0, by kernel_rfl, by kernel_rfl⟩
theorem bds {n : Int} (h : (Lit.int .i64 n).wf = true) : -9223372036854775808 ≤ n ∧ n ≤ 9223372036854775807 := by
  unfold Lit.wf at h
  rw [Bool.and_eq_true] at h
  exact ⟨of_decide_eq_true h.1, of_decide_eq_true h.2⟩
theorem cT : Tryz.prog.cellsOf 125 = 20 := by kernel_rfl
theorem cE : Tryz.prog.cellsOf 106 = 1 := by kernel_rfl
/-- what the row's list gives: the table of tens -/
theorem table {W : World} (h : laidMetH Tryz.prog Rows.vcdReadsRow.laid W) : PowT W := by
  have h2 := (laidMetH_iff.1 h).1.filter (fun x => x.1 == "internal\x2fstrconv.uint64pow10")
  obtain ⟨g, hg, hgt⟩ := gPow
  exact Lib.tabIs_of_head (rest := []) hg hgt Tryz.underlying125 Tryz.underlying106 cE cT h2

theorem e1 : Tryz.prog.cellsOf 135 = 1 := by kernel_rfl
theorem e2 : Tryz.prog.cellsOf 9 = 1 := by kernel_rfl
theorem star : "*" ++ "errors.errorString" = "*errors.errorString" := by decide
theorem rowE (u : TypeId) (h : Tryz.prog.typeName? 3 u = some "*errors.errorString") : u = 133 :=
  typeName_ptr_named (nm := "errors.errorString") (by rw [star]; kernel_rfl) (by kernel_rfl) (by decide) u (by rw [star]; exact h)
theorem gErrSyntax : ∃ g, Tryz.prog.globalNamed "strconv.ErrSyntax" = some g ∧ (Tryz.prog.globals[g]?).map (·.type) = some 86 := ⟨(Tryz.prog.globalNamed "strconv.ErrSyntax").getD 0, by kernel_rfl, by kernel_rfl⟩
theorem vErrSyntax {W : World} (h : laidMetH Tryz.prog Rows.vcdReadsRow.laid W) : ErrN "strconv.ErrSyntax" W := by
  have h2 := (laidMetH_iff.1 h).1.filter (fun x => x.1 == "strconv.ErrSyntax")
  obtain ⟨g, hg, hgt⟩ := gErrSyntax
  obtain ⟨a, s, hv, _⟩ := laid_sentinel (r := []) h2 hg hgt Tryz.underlying86 rowE Tryz.underlying133 Tryz.underlying135 rfl rfl Tryz.underlying9 e1 e2
  exact ⟨_, _, hv⟩
theorem gErrRange : ∃ g, Tryz.prog.globalNamed "strconv.ErrRange" = some g ∧ (Tryz.prog.globals[g]?).map (·.type) = some 86 := ⟨(Tryz.prog.globalNamed "strconv.ErrRange").getD 0, by kernel_rfl, by kernel_rfl⟩
theorem vErrRange {W : World} (h : laidMetH Tryz.prog Rows.vcdReadsRow.laid W) : ErrN "strconv.ErrRange" W := by
  have h2 := (laidMetH_iff.1 h).1.filter (fun x => x.1 == "strconv.ErrRange")
  obtain ⟨g, hg, hgt⟩ := gErrRange
  obtain ⟨a, s, hv, _⟩ := laid_sentinel (r := []) h2 hg hgt Tryz.underlying86 rowE Tryz.underlying133 Tryz.underlying135 rfl rfl Tryz.underlying9 e1 e2
  exact ⟨_, _, hv⟩
set_option maxRecDepth 100000 in
theorem contract (H : Type) (enc : TypeId × Value → H) (W : World) (base : Nat) (args : Array Value) (ds gs : List (DataW H)) (before : List MemPlace)
    (hval0 : ∀ (j : Nat) t v, Tryz.f3.params[j]? = some t → args[j]? = some v → Value.okWide Tryz.prog W .any base t v)
    (hW : DataW.Whole enc Tryz.prog Tryz.f3.params.toList Rows.vcdReadsSpec.vars false W args.toList ds gs before) (hL : laidMetH Tryz.prog Rows.vcdReadsRow.laid W)
    : Calls Tryz.prog 3 args W fun e W' => ∃ v, e = .returned v ∧ Rows.vcdReadsSpec.post enc Tryz.prog Tryz.f3 false true false false W args v W' := by
  have hval : ∀ (j : Nat) t v, Tryz.f3.params[j]? = some t → args[j]? = some v → Value.okWide Tryz.prog W .any base t v := hval0
  have hT : PowT W := table hL
  have hE : ErrV W := ⟨vErrSyntax hL, vErrRange hL⟩
  have hW' := hW
  obtain ⟨p, q, hA0, hV, rfl, hfz, hnd⟩ := hW
  have hA : DataW.TrodAll enc Tryz.prog W 0 (fun _ => true) true Tryz.f3.params.toList args.toList ds p := hA0
  rw [Tryz.params3] at hA hval
  obtain ⟨v0, vs0, d0, ds0, p0, q0, hargs, rfl, rfl, h0, r0⟩ := trodAll_cons hA
  obtain ⟨rfl, rfl, rfl⟩ := trodAll_nil r0
  obtain rfl : args = #[v0] := by cases args; simp_all
  obtain ⟨rfl, rfl⟩ := trodVars_none hV
  obtain ⟨a0, rfl, rfl, rfl, w0⟩ := open_string Tryz.underlying9 (hval 0 9 v0 rfl rfl) h0
  clear hA0 hval0
  simp only [List.append_nil] at hW'
  refine (VcdReads_c pd a0 W hT hE).mono fun e W' ⟨he, bel⟩ => ?_
  subst he
  exact ⟨_, rfl, _, _, _, [], _, [], hW', trodAll_mk1 (shut_bool Tryz.underlying4 _), (trodAll_cons_mk (shut_string Tryz.underlying9 w0) trodAll_mk0), rfl, bel.frame _, fun h => by cases h⟩

theorem laid_met (os : Os) : laidMet Tryz.prog Rows.vcdReadsRow.laid ((World.laidAll Tryz.prog os Rows.vcdReadsRow.laid).forCall (fun _ _ => 0) ⟨#[], #[.string ⟨#[]⟩], []⟩).memory :=
  laidMet_laidAll _ (by kernel_rfl) (by kernel_rfl)
theorem reads (os : Os) {H : Type} (enc : TypeId × Value → H) : ∃ places, DataW.whole enc Tryz.prog ((World.laidAll Tryz.prog os Rows.vcdReadsRow.laid).forCall (fun _ _ => 0) ⟨#[], #[.string ⟨#[]⟩], []⟩).memory Tryz.f3.params.toList Rows.vcdReadsSpec.vars false (#[.string ⟨#[]⟩] : Array Value).toList 8 = some ([.lit (.string [])], [], places) :=
  ⟨[], by kernel_rfl⟩

set_option maxRecDepth 100000 in
theorem lifted (os : Os) (started : os.Started) (H : Type) (enc : TypeId × Value → H) (F : Stop.Interp) :
    ReturnsInHanded {} Tryz.checked os 3 .any ((OpenSpec.ofChange Rows.vcdReadsSpec).preRow enc Tryz.prog Tryz.f3 Rows.vcdReadsRow.domain false Rows.vcdReadsRow.laid) (((OpenSpec.ofChange Rows.vcdReadsSpec).at F).post enc Tryz.prog Tryz.f3 false true false false) := by
  obtain ⟨places, hx⟩ := reads os enc
  refine returnsInHanded_of_row (C := Tryz.checked) (s := (OpenSpec.ofChange Rows.vcdReadsSpec)) own started (by kernel_rfl) Tryz.func3
    (witness_row_atRef (enc := enc) (C := Tryz.checked) false (World.laidAll Tryz.prog os Rows.vcdReadsRow.laid) #[.string ⟨#[]⟩] (World.laidAll_os _ _ _) (by kernel_rfl) (by kernel_rfl) (by kernel_rfl)
      (OpenSpec.preRow_of_cond 8 hx (by kernel_rfl) (fun k hk => by cases hk) (by kernel_rfl) (laid_met os))) ?_
  intro W base args ds gs before hval hW _ hcond hsz hL _ _
  exact contract H enc W base args ds gs before hval hW hL

theorem said : Rows.vcdReadsRow.holds Tryz.pinned (OpenSpec.ofChange Rows.vcdReadsSpec) :=
  OpenClaim.holds_of_cond 3 Tryz.f3 rfl rfl rfl rfl rfl rfl rfl ⟨rfl, rfl, rfl, rfl, rfl⟩ rfl rfl rfl rfl rfl (by kernel_rfl) Tryz.func3 (by kernel_rfl)
    (of_decide_eq_true (by kernel_rfl)) (by unfold Func.isWrapper; first | (rw [if_pos (by decide +kernel)]; kernel_rfl) | (rw [if_neg (by decide +kernel)]; exact ⟨rfl, rfl⟩))
    (fun os started H enc _ F => by rw [OpenClaim.pre_eq_preRow]; exact lifted os started H enc F)

theorem plain (f : FuncId) (fn : Func) (hf : Tryz.pinned.checked.prog.funcNamed "silkworm\x2fsilkwormlaw19.VcdReads" = some f) (hfn : Tryz.pinned.checked.prog.funcs[f]? = some fn) :
    true = Tryz.pinned.checked.prog.looks [] ∧ ∀ (j : Nat) t, fn.params[j]? = some t → Tryz.pinned.checked.prog.wantsStandIn t = false := by
  obtain rfl : f = 3 := Option.some.inj ((show Tryz.prog.funcNamed "silkworm\x2fsilkwormlaw19.VcdReads" = some 3 by kernel_rfl).symm.trans hf) |>.symm
  obtain rfl : fn = Tryz.f3 := (Option.some.inj (Tryz.func3.symm.trans hfn)).symm
  refine ⟨by kernel_rfl, fun j t ht => ?_⟩
  rw [Tryz.params3] at ht
  have hm : t ∈ #[9] := Array.mem_of_getElem? ht
  have hall : (#[9] : Array TypeId).all (fun t => !Tryz.prog.wantsStandIn t) = true := by kernel_rfl
  have hb := Array.all_eq_true_iff_forall_mem.1 hall t hm
  have hb2 : (!Tryz.prog.wantsStandIn t) = true := hb
  show Tryz.prog.wantsStandIn t = false
  cases hx : Tryz.prog.wantsStandIn t with
  | false => rfl
  | true => rw [hx] at hb2; cases hb2
end vcdReads

theorem VcdReads_holds : Rows.VcdReadsCardSaid :=
  Claim7.holds_tied_plain_at .later [] _ _ _ _ vcdReads.said (fun _ h => by cases h) (by kernel_rfl) (fun _ h => by cases h) vcdReads_row_tie rfl ⟨rfl, rfl⟩ (by kernel_rfl) rfl vcdReads.plain (by kernel_rfl)
#print axioms VcdReads_holds
end Go.Proofs.YtodpljgajjcdoaaGreatDoor
