/-
  In the dump of any waveform the times rise, and each change lies below its own. Of waveforms of bulk up to 1048576.
-/
import Derived.Test.YtfcongggmjijfaaDoorCards
import Derived.Test.YtfcongggmjijfaaDoorTie
import Derived.Test.YtfcongggmjijfaaDoorUW
import Derived.Test.YtfcongggmjijfaaDoorDO
import Derived.Test.YtfcongggmjijfaaDoorGUr
import Derived.ProofKit
import Derived.OpenShut
import Derived.ShutString
import Derived.ChangeOld
import Derived.Below
import Derived.Deep.DeepHandedRow
import Derived.Lib.LaidTab
import Derived.LaidMore
import Derived.LaidSub
import Derived.LaidHandle
import Derived.Lay
import Derived.Deep.DeepWitnessRowRef
namespace Go.Proofs.YtfcongggmjijfaaDoor
set_option maxRecDepth 100000
namespace vcdTimes
open Go.ChangeShapes Go.WideShapes Go.ChangeAt Go.RowKit
open Go.ChangeMaps (open_string shut_string)
set_option linter.unusedVariables false

theorem own : ownKnob Tryd.prog.godebug = none := by kernel_rfl
theorem laidOut : laidOutB Tryd.prog = true := by kernel_rfl
theorem gPow : ∃ g, Tryd.prog.globalNamed "internal\x2fstrconv.uint64pow10" = some g ∧ (Tryd.prog.globals[g]?).map (·.type) = some 115 := by
  first | exact ⟨0, by kernel_rfl, by kernel_rfl⟩ | exact ⟨1, by kernel_rfl, by kernel_rfl⟩ | exact ⟨2, by kernel_rfl, by kernel_rfl⟩ | exact ⟨3, by kernel_rfl, by kernel_rfl⟩ | exact ⟨4, by kernel_rfl, by kernel_rfl⟩ | exact ⟨5, by kernel_rfl, by kernel_rfl⟩
theorem bds {n : Int} (h : (Lit.int .i64 n).wf = true) : -9223372036854775808 ≤ n ∧ n ≤ 9223372036854775807 := by
  unfold Lit.wf at h
  rw [Bool.and_eq_true] at h
  exact ⟨of_decide_eq_true h.1, of_decide_eq_true h.2⟩
theorem cT : Tryd.prog.cellsOf 115 = 20 := by kernel_rfl
theorem cE : Tryd.prog.cellsOf 99 = 1 := by kernel_rfl
/-- what the row's list gives: the table of tens -/
theorem table {W : World} (h : laidMetH Tryd.prog Rows.vcdTimesUptoRow.laid W) : PowT W := by
  have h2 := (laidMetH_iff.1 h).1.filter (fun x => x.1 == "internal\x2fstrconv.uint64pow10")
  obtain ⟨g, hg, hgt⟩ := gPow
  exact Lib.tabIs_of_head (rest := []) hg hgt Tryd.underlying115 Tryd.underlying99 cE cT h2

set_option maxRecDepth 100000 in
theorem contract (H : Type) (enc : TypeId × Value → H) (W : World) (base : Nat) (args : Array Value) (ds gs : List (DataW H)) (before : List MemPlace)
    (hval0 : ∀ (j : Nat) t v, Tryd.f6.params[j]? = some t → args[j]? = some v → Value.okWide Tryd.prog W .any base t v)
    (hW : DataW.Whole enc Tryd.prog Tryd.f6.params.toList Rows.vcdTimesSpec.vars false W args.toList ds gs before) (hL : laidMetH Tryd.prog Rows.vcdTimesUptoRow.laid W)
    (hsz : (DataW.weightsEach Tryd.prog (Tryd.f6.params.toList ++ Rows.vcdTimesSpec.plain.varTypes Tryd.prog) (ds ++ gs)).all (· ≤ reachBytes) = true)
    (hcond : Rows.uptoSmall H (ds ++ gs) = true)
    : Calls Tryd.prog 6 args W fun e W' => ∃ v, e = .returned v ∧ Rows.vcdTimesSpec.post enc Tryd.prog Tryd.f6 false true false false W args v W' := by
  have hval : ∀ (j : Nat) t v, Tryd.f6.params[j]? = some t → args[j]? = some v → Value.okWide Tryd.prog W .any base t v := hval0
  have hT : PowT W := table hL
  have hW' := hW
  obtain ⟨p, q, hA0, hV, rfl, hfz, hnd⟩ := hW
  have hA : DataW.TrodAll enc Tryd.prog W 0 (fun _ => true) true Tryd.f6.params.toList args.toList ds p := hA0
  rw [Tryd.params6] at hA hval
  obtain ⟨v0, vs0, d0, ds0, p0, q0, hargs, rfl, rfl, h0, r0⟩ := trodAll_cons hA
  obtain ⟨rfl, rfl, rfl⟩ := trodAll_nil r0
  obtain rfl : args = #[v0] := by cases args; simp_all
  obtain ⟨rfl, rfl⟩ := trodVars_none hV
  have k0 := h0
  have lt0 : ∀ x ∈ p0, x.block < W.heap.size := by obtain ⟨m, hm⟩ := k0; exact DataW.trod_lt m _ _ _ hm
  obtain ⟨vn0, vw0, vf0, vl0, x0, rfl, hw0, hf0, hq0⟩ := open_waveB (hval 0 26 v0 rfl rfl) h0
  clear hA0 hval0
  simp only [List.append_nil] at hW' hsz hcond
  rw [Tryd.params6] at hsz
  simp [DataW.weightsEach] at hsz
  have hr0 : RchV 26 d0 := by unfold RchV; rw [List.all_eq_true]; intro y hy; exact decide_eq_true (by first | exact hsz y hy | exact hsz y (Or.inl hy) | exact hsz y (Or.inr hy) | exact hsz y (Or.inr (Or.inl hy)) | exact hsz.1 y hy | exact hsz.2 y hy | exact hsz.2.1 y hy)
  have hbulk : Rows.uptoBulk d0 + (0) ≤ 1048576 := of_decide_eq_true hcond
  have hi0 : Wd W vn0 vw0 vf0 vl0 x0 := ⟨hw0, (hf0 hr0).1, (hf0 hr0).2.1, by omega⟩
  refine (VcdTimes_c pd x0 vn0 vw0 vf0 vl0 W hi0 hT).mono fun e W' ⟨he, bel⟩ => ?_
  subst he
  exact ⟨_, rfl, _, _, _, [], _, [], hW', trodAll_mk1 (shut_bool Tryd.underlying4 _), (trodAll_cons_mk (Below.trod laidOut (by kernel_rfl) (of_decide_eq_true (by kernel_rfl)) k0 bel lt0) trodAll_mk0), rfl, bel.frame _, fun h => by cases h⟩

theorem laid_met (os : Os) : laidMet Tryd.prog Rows.vcdTimesUptoRow.laid ((World.laidAll Tryd.prog os Rows.vcdTimesUptoRow.laid).forCall (fun _ _ => 0) ⟨#[], #[.agg #[.slice none 0 0, .slice none 0 0, .slice none 0 0, .slice none 0 0]], []⟩).memory :=
  laidMet_laidAll _ (by kernel_rfl) (by kernel_rfl)
theorem reads (os : Os) {H : Type} (enc : TypeId × Value → H) : ∃ places, DataW.whole enc Tryd.prog ((World.laidAll Tryd.prog os Rows.vcdTimesUptoRow.laid).forCall (fun _ _ => 0) ⟨#[], #[.agg #[.slice none 0 0, .slice none 0 0, .slice none 0 0, .slice none 0 0]], []⟩).memory Tryd.f6.params.toList Rows.vcdTimesSpec.vars false (#[.agg #[.slice none 0 0, .slice none 0 0, .slice none 0 0, .slice none 0 0]] : Array Value).toList 8 = some ([.agg [.nil, .nil, .nil, .nil]], [], places) :=
  ⟨[], by kernel_rfl⟩

set_option maxRecDepth 100000 in
theorem lifted (os : Os) (started : os.Started) (H : Type) (enc : TypeId × Value → H) (F : Stop.Interp) :
    ReturnsInHanded {} Tryd.checked os 6 .any ((Rows.OpenSpec.upto Rows.vcdTimesSpec).preRow enc Tryd.prog Tryd.f6 Rows.vcdTimesUptoRow.domain false Rows.vcdTimesUptoRow.laid) (((Rows.OpenSpec.upto Rows.vcdTimesSpec).at F).post enc Tryd.prog Tryd.f6 false true false false) := by
  obtain ⟨places, hx⟩ := reads os enc
  refine returnsInHanded_of_row (C := Tryd.checked) (s := (Rows.OpenSpec.upto Rows.vcdTimesSpec)) own started (by kernel_rfl) Tryd.func6
    (witness_row_atRef (enc := enc) (C := Tryd.checked) false (World.laidAll Tryd.prog os Rows.vcdTimesUptoRow.laid) #[.agg #[.slice none 0 0, .slice none 0 0, .slice none 0 0, .slice none 0 0]] (World.laidAll_os _ _ _) (by kernel_rfl) (by kernel_rfl) (by kernel_rfl)
      (OpenSpec.preRow_of_cond 8 hx (by kernel_rfl) (fun k hk => by cases hk; kernel_rfl) (by kernel_rfl) (laid_met os))) ?_
  intro W base args ds gs before hval hW _ hcond hsz hL _ _
  exact contract H enc W base args ds gs before hval hW hL hsz (hcond _ rfl)

theorem said : Rows.vcdTimesUptoRow.holds Tryd.pinned (Rows.OpenSpec.upto Rows.vcdTimesSpec) :=
  OpenClaim.holds_of_cond 6 Tryd.f6 rfl rfl rfl rfl rfl rfl rfl ⟨rfl, rfl, rfl, rfl, rfl⟩ rfl rfl rfl rfl rfl (by kernel_rfl) Tryd.func6 (by kernel_rfl)
    (of_decide_eq_true (by kernel_rfl)) (by unfold Func.isWrapper; first | (rw [if_pos (by decide +kernel)]; kernel_rfl) | (rw [if_neg (by decide +kernel)]; exact ⟨rfl, rfl⟩))
    (fun os started H enc _ F => by rw [OpenClaim.pre_eq_preRow]; exact lifted os started H enc F)

theorem plain (f : FuncId) (fn : Func) (hf : Tryd.pinned.checked.prog.funcNamed "silkworm\x2fsilkwormlaw19.VcdTimes" = some f) (hfn : Tryd.pinned.checked.prog.funcs[f]? = some fn) :
    true = Tryd.pinned.checked.prog.looks [] ∧ ∀ (j : Nat) t, fn.params[j]? = some t → Tryd.pinned.checked.prog.wantsStandIn t = false := by
  obtain rfl : f = 6 := Option.some.inj ((show Tryd.prog.funcNamed "silkworm\x2fsilkwormlaw19.VcdTimes" = some 6 by kernel_rfl).symm.trans hf) |>.symm
  obtain rfl : fn = Tryd.f6 := (Option.some.inj (Tryd.func6.symm.trans hfn)).symm
  refine ⟨by kernel_rfl, fun j t ht => ?_⟩
  rw [Tryd.params6] at ht
  have hm : t ∈ #[26] := Array.mem_of_getElem? ht
  have hall : (#[26] : Array TypeId).all (fun t => !Tryd.prog.wantsStandIn t) = true := by kernel_rfl
  have hb := Array.all_eq_true_iff_forall_mem.1 hall t hm
  have hb2 : (!Tryd.prog.wantsStandIn t) = true := hb
  show Tryd.prog.wantsStandIn t = false
  cases hx : Tryd.prog.wantsStandIn t with
  | false => rfl
  | true => rw [hx] at hb2; cases hb2
end vcdTimes

theorem VcdTimes_holds : Rows.VcdTimesUptoCardSaid :=
  Claim7.holds_tied_plain_at .later [] _ _ _ _ vcdTimes.said (fun _ h => by cases h) (by kernel_rfl) (fun _ h => by cases h) vcdTimesUpto_row_tie rfl ⟨rfl, rfl⟩ (by kernel_rfl) rfl vcdTimes.plain (by kernel_rfl)
#print axioms VcdTimes_holds
end Go.Proofs.YtfcongggmjijfaaDoor
