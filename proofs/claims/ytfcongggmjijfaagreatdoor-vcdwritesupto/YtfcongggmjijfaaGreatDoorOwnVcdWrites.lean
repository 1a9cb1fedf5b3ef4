/-
  The dump of any waveform is the document's, or both refuse it. Of waveforms of bulk up to 1048576.
-/
import Derived.Test.YtfcongggmjijfaaGreatDoorCards
import Derived.Test.YtfcongggmjijfaaGreatDoorTie
import Derived.Test.YtfcongggmjijfaaGreatDoorDK
import Derived.Test.YtfcongggmjijfaaGreatDoorDO
import Derived.Test.YtfcongggmjijfaaGreatDoorGUr
import Derived.ProofKit
import Derived.OpenShut
import Derived.ShutString
import Derived.ChangeOld
import Derived.Below
import Derived.Deep.DeepHandedRow
import Derived.Lib.LaidTab
import Derived.LaidMore
import Derived.LaidSub
import Derived.LaidHandle
import Derived.Lay
import Derived.Deep.DeepWitnessRowRef
namespace Go.Proofs.YtfcongggmjijfaaGreatDoor
set_option maxRecDepth 100000
namespace vcdWrites
open Go.ChangeShapes Go.WideShapes Go.ChangeAt Go.RowKit
open Go.ChangeMaps (open_string shut_string)
set_option linter.unusedVariables false

theorem own : ownKnob Tryz.prog.godebug = none := by kernel_rfl
theorem laidOut : laidOutB Tryz.prog = true := by kernel_rfl
theorem gPow : ∃ g, Tryz.prog.globalNamed "internal\x2fstrconv.uint64pow10" = some g ∧ (Tryz.prog.globals[g]?).map (·.type) = some 109 := by
  first | exact ⟨0, by kernel_rfl, by kernel_rfl⟩ | exact ⟨1, by kernel_rfl, by kernel_rfl⟩ | exact ⟨2, by kernel_rfl, by kernel_rfl⟩ | exact ⟨3, by kernel_rfl, by kernel_rfl⟩ | exact ⟨4, by kernel_rfl, by kernel_rfl⟩ | exact ⟨5, by kernel_rfl, by kernel_rfl⟩
theorem bds {n : Int} (h : (Lit.int .i64 n).wf = true) : -9223372036854775808 ≤ n ∧ n ≤ 9223372036854775807 := by
  unfold Lit.wf at h
  rw [Bool.and_eq_true] at h
  exact ⟨of_decide_eq_true h.1, of_decide_eq_true h.2⟩
theorem cT : Tryz.prog.cellsOf 109 = 20 := by kernel_rfl
theorem cE : Tryz.prog.cellsOf 97 = 1 := by kernel_rfl
/-- what the row's list gives: the table of tens -/
theorem table {W : World} (h : laidMetH Tryz.prog Rows.vcdWritesUptoRow.laid W) : PowT W := by
  have h2 := (laidMetH_iff.1 h).1.filter (fun x => x.1 == "internal\x2fstrconv.uint64pow10")
  obtain ⟨g, hg, hgt⟩ := gPow
  exact Lib.tabIs_of_head (rest := []) hg hgt Tryz.underlying109 Tryz.underlying97 cE cT h2

set_option maxRecDepth 100000 in
theorem contract (H : Type) (enc : TypeId × Value → H) (W : World) (base : Nat) (args : Array Value) (ds gs : List (DataW H)) (before : List MemPlace)
    (hval0 : ∀ (j : Nat) t v, Tryz.f3.params[j]? = some t → args[j]? = some v → Value.okWide Tryz.prog W .any base t v)
    (hW : DataW.Whole enc Tryz.prog Tryz.f3.params.toList Rows.vcdWritesSpec.vars false W args.toList ds gs before) (hL : laidMetH Tryz.prog Rows.vcdWritesUptoRow.laid W)
    (hsz : (DataW.weightsEach Tryz.prog (Tryz.f3.params.toList ++ Rows.vcdWritesSpec.plain.varTypes Tryz.prog) (ds ++ gs)).all (· ≤ reachBytes) = true)
    (hcond : Rows.uptoSmall H (ds ++ gs) = true)
    : Calls Tryz.prog 3 args W fun e W' => ∃ v, e = .returned v ∧ Rows.vcdWritesSpec.post enc Tryz.prog Tryz.f3 false true false false W args v W' := by
  have hval : ∀ (j : Nat) t v, Tryz.f3.params[j]? = some t → args[j]? = some v → Value.okWide Tryz.prog W .any base t v := hval0
  have hT : PowT W := table hL
  have hW' := hW
  obtain ⟨p, q, hA0, hV, rfl, hfz, hnd⟩ := hW
  have hA : DataW.TrodAll enc Tryz.prog W 0 (fun _ => true) true Tryz.f3.params.toList args.toList ds p := hA0
  rw [Tryz.params3] at hA hval
  obtain ⟨v0, vs0, d0, ds0, p0, q0, hargs, rfl, rfl, h0, r0⟩ := trodAll_cons hA
  obtain ⟨rfl, rfl, rfl⟩ := trodAll_nil r0
  obtain rfl : args = #[v0] := by cases args; simp_all
  obtain ⟨rfl, rfl⟩ := trodVars_none hV
  have k0 := h0
  have lt0 : ∀ x ∈ p0, x.block < W.heap.size := by obtain ⟨m, hm⟩ := k0; exact DataW.trod_lt m _ _ _ hm
  obtain ⟨vn0, vw0, vf0, vl0, x0, rfl, hw0, hf0, hq0⟩ := open_waveB (hval 0 26 v0 rfl rfl) h0
  clear hA0 hval0
  simp only [List.append_nil] at hW' hsz hcond
  rw [Tryz.params3] at hsz
  simp [DataW.weightsEach] at hsz
  have hr0 : RchV 26 d0 := by unfold RchV; rw [List.all_eq_true]; intro y hy; exact decide_eq_true (by first | exact hsz y hy | exact hsz y (Or.inl hy) | exact hsz y (Or.inr hy) | exact hsz y (Or.inr (Or.inl hy)) | exact hsz.1 y hy | exact hsz.2 y hy | exact hsz.2.1 y hy)
  have hbulk : Rows.uptoBulk d0 + (0) ≤ 1048576 := of_decide_eq_true hcond
  have hi0 : Wd W vn0 vw0 vf0 vl0 x0 := ⟨hw0, (hf0 hr0).1, (hf0 hr0).2.1, by omega⟩
  refine (VcdWrites_c pd x0 vn0 vw0 vf0 vl0 W hi0 hT).mono fun e W' ⟨he, bel⟩ => ?_
  subst he
  exact ⟨_, rfl, _, _, _, [], _, [], hW', trodAll_mk1 (shut_bool Tryz.underlying4 _), (trodAll_cons_mk (Below.trod laidOut (by kernel_rfl) (of_decide_eq_true (by kernel_rfl)) k0 bel lt0) trodAll_mk0), rfl, bel.frame _, fun h => by cases h⟩

theorem laid_met (os : Os) : laidMet Tryz.prog Rows.vcdWritesUptoRow.laid ((World.laidAll Tryz.prog os Rows.vcdWritesUptoRow.laid).forCall (fun _ _ => 0) ⟨#[], #[.agg #[.slice none 0 0, .slice none 0 0, .slice none 0 0, .slice none 0 0]], []⟩).memory :=
  laidMet_laidAll _ (by kernel_rfl) (by kernel_rfl)
theorem reads (os : Os) {H : Type} (enc : TypeId × Value → H) : ∃ places, DataW.whole enc Tryz.prog ((World.laidAll Tryz.prog os Rows.vcdWritesUptoRow.laid).forCall (fun _ _ => 0) ⟨#[], #[.agg #[.slice none 0 0, .slice none 0 0, .slice none 0 0, .slice none 0 0]], []⟩).memory Tryz.f3.params.toList Rows.vcdWritesSpec.vars false (#[.agg #[.slice none 0 0, .slice none 0 0, .slice none 0 0, .slice none 0 0]] : Array Value).toList 8 = some ([.agg [.nil, .nil, .nil, .nil]], [], places) :=
  ⟨[], by kernel_rfl⟩

set_option maxRecDepth 100000 in
theorem lifted (os : Os) (started : os.Started) (H : Type) (enc : TypeId × Value → H) (F : Stop.Interp) :
    ReturnsInHanded {} Tryz.checked os 3 .any ((Rows.OpenSpec.upto Rows.vcdWritesSpec).preRow enc Tryz.prog Tryz.f3 Rows.vcdWritesUptoRow.domain false Rows.vcdWritesUptoRow.laid) (((Rows.OpenSpec.upto Rows.vcdWritesSpec).at F).post enc Tryz.prog Tryz.f3 false true false false) := by
  obtain ⟨places, hx⟩ := reads os enc
  refine returnsInHanded_of_row (C := Tryz.checked) (s := (Rows.OpenSpec.upto Rows.vcdWritesSpec)) own started (by kernel_rfl) Tryz.func3
    (witness_row_atRef (enc := enc) (C := Tryz.checked) false (World.laidAll Tryz.prog os Rows.vcdWritesUptoRow.laid) #[.agg #[.slice none 0 0, .slice none 0 0, .slice none 0 0, .slice none 0 0]] (World.laidAll_os _ _ _) (by kernel_rfl) (by kernel_rfl) (by kernel_rfl)
      (OpenSpec.preRow_of_cond 8 hx (by kernel_rfl) (fun k hk => by cases hk; kernel_rfl) (by kernel_rfl) (laid_met os))) ?_
  intro W base args ds gs before hval hW _ hcond hsz hL _ _
  exact contract H enc W base args ds gs before hval hW hL hsz (hcond _ rfl)

theorem said : Rows.vcdWritesUptoRow.holds Tryz.pinned (Rows.OpenSpec.upto Rows.vcdWritesSpec) :=
  OpenClaim.holds_of_cond 3 Tryz.f3 rfl rfl rfl rfl rfl rfl rfl ⟨rfl, rfl, rfl, rfl, rfl⟩ rfl rfl rfl rfl rfl (by kernel_rfl) Tryz.func3 (by kernel_rfl)
    (of_decide_eq_true (by kernel_rfl)) (by unfold Func.isWrapper; first | (rw [if_pos (by decide +kernel)]; kernel_rfl) | (rw [if_neg (by decide +kernel)]; exact ⟨rfl, rfl⟩))
    (fun os started H enc _ F => by rw [OpenClaim.pre_eq_preRow]; exact lifted os started H enc F)

theorem plain (f : FuncId) (fn : Func) (hf : Tryz.pinned.checked.prog.funcNamed "silkworm\x2fsilkwormlaw19.VcdWrites" = some f) (hfn : Tryz.pinned.checked.prog.funcs[f]? = some fn) :
    true = Tryz.pinned.checked.prog.looks [] ∧ ∀ (j : Nat) t, fn.params[j]? = some t → Tryz.pinned.checked.prog.wantsStandIn t = false := by
  obtain rfl : f = 3 := Option.some.inj ((show Tryz.prog.funcNamed "silkworm\x2fsilkwormlaw19.VcdWrites" = some 3 by kernel_rfl).symm.trans hf) |>.symm
  obtain rfl : fn = Tryz.f3 := (Option.some.inj (Tryz.func3.symm.trans hfn)).symm
  refine ⟨by kernel_rfl, fun j t ht => ?_⟩
  rw [Tryz.params3] at ht
  have hm : t ∈ #[26] := Array.mem_of_getElem? ht
  have hall : (#[26] : Array TypeId).all (fun t => !Tryz.prog.wantsStandIn t) = true := by kernel_rfl
  have hb := Array.all_eq_true_iff_forall_mem.1 hall t hm
  have hb2 : (!Tryz.prog.wantsStandIn t) = true := hb
  show Tryz.prog.wantsStandIn t = false
  cases hx : Tryz.prog.wantsStandIn t with
  | false => rfl
  | true => rw [hx] at hb2; cases hb2
end vcdWrites

theorem VcdWrites_holds : Rows.VcdWritesUptoCardSaid :=
  Claim7.holds_tied_plain_at .later [] _ _ _ _ vcdWrites.said (fun _ h => by cases h) (by kernel_rfl) (fun _ h => by cases h) vcdWritesUpto_row_tie rfl ⟨rfl, rfl⟩ (by kernel_rfl) rfl vcdWrites.plain (by kernel_rfl)
#print axioms VcdWrites_holds
end Go.Proofs.YtfcongggmjijfaaGreatDoor
