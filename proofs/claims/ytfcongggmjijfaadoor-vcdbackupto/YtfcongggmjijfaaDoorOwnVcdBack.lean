/-
  What is written is read as it was; what is read, and written again, is the same bytes. Of waveforms and texts of bulk up to 1048576.
-/
import Derived.Test.YtfcongggmjijfaaDoorCards
import Derived.Test.YtfcongggmjijfaaDoorTie
import Derived.Test.YtfcongggmjijfaaDoorDQ
import Derived.Test.YtfcongggmjijfaaDoorDO
import Derived.Test.YtfcongggmjijfaaDoorGUr
import Derived.ProofKit
import Derived.OpenShut
import Derived.ShutString
import Derived.ChangeOld
import Derived.Below
import Derived.Deep.DeepHandedRow
import Derived.Lib.LaidTab
import Derived.LaidMore
import Derived.LaidSub
import Derived.LaidHandle
import Derived.Lay
import Derived.Deep.DeepWitnessRowRef
import Derived.Stop.LaidErr
namespace Go.Proofs.YtfcongggmjijfaaDoor
set_option maxRecDepth 100000
namespace vcdBack
open Go.ChangeShapes Go.WideShapes Go.ChangeAt Go.RowKit
open Go.ChangeMaps (open_string shut_string)
set_option linter.unusedVariables false

theorem own : ownKnob Tryd.prog.godebug = none := by kernel_rfl
theorem laidOut : laidOutB Tryd.prog = true := by kernel_rfl
theorem gPow : ∃ g, Tryd.prog.globalNamed "internal\x2fstrconv.uint64pow10" = some g ∧ (Tryd.prog.globals[g]?).map (·.type) = some 115 := by
  first | exact ⟨0, by kernel_rfl, by kernel_rfl⟩ | exact ⟨1, by kernel_rfl, by kernel_rfl⟩ | exact ⟨2, by kernel_rfl, by kernel_rfl⟩ | exact ⟨3, by kernel_rfl, by kernel_rfl⟩ | exact ⟨4, by kernel_rfl, by kernel_rfl⟩ | exact ⟨5, by kernel_rfl, by kernel_rfl⟩
theorem bds {n : Int} (h : (Lit.int .i64 n).wf = true) : -9223372036854775808 ≤ n ∧ n ≤ 9223372036854775807 := by
  unfold Lit.wf at h
  rw [Bool.and_eq_true] at h
  exact ⟨of_decide_eq_true h.1, of_decide_eq_true h.2⟩
theorem cT : Tryd.prog.cellsOf 115 = 20 := by kernel_rfl
theorem cE : Tryd.prog.cellsOf 99 = 1 := by kernel_rfl
/-- what the row's list gives: the table of tens -/
theorem table {W : World} (h : laidMetH Tryd.prog Rows.vcdBackUptoRow.laid W) : PowT W := by
  have h2 := (laidMetH_iff.1 h).1.filter (fun x => x.1 == "internal\x2fstrconv.uint64pow10")
  obtain ⟨g, hg, hgt⟩ := gPow
  exact Lib.tabIs_of_head (rest := []) hg hgt Tryd.underlying115 Tryd.underlying99 cE cT h2

theorem e1 : Tryd.prog.cellsOf 135 = 1 := by kernel_rfl
theorem e2 : Tryd.prog.cellsOf 9 = 1 := by kernel_rfl
theorem star : "*" ++ "errors.errorString" = "*errors.errorString" := by decide
theorem rowE (u : TypeId) (h : Tryd.prog.typeName? 3 u = some "*errors.errorString") : u = 133 :=
  typeName_ptr_named (nm := "errors.errorString") (by rw [star]; kernel_rfl) (by kernel_rfl) (by decide) u (by rw [star]; exact h)
theorem gErrSyntax : ∃ g, Tryd.prog.globalNamed "strconv.ErrSyntax" = some g ∧ (Tryd.prog.globals[g]?).map (·.type) = some 82 := ⟨(Tryd.prog.globalNamed "strconv.ErrSyntax").getD 0, by kernel_rfl, by kernel_rfl⟩
theorem vErrSyntax {W : World} (h : laidMetH Tryd.prog Rows.vcdBackUptoRow.laid W) : ErrN "strconv.ErrSyntax" W := by
  have h2 := (laidMetH_iff.1 h).1.filter (fun x => x.1 == "strconv.ErrSyntax")
  obtain ⟨g, hg, hgt⟩ := gErrSyntax
  obtain ⟨a, s, hv, _⟩ := laid_sentinel (r := []) h2 hg hgt Tryd.underlying82 rowE Tryd.underlying133 Tryd.underlying135 rfl rfl Tryd.underlying9 e1 e2
  exact ⟨_, _, hv⟩
theorem gErrRange : ∃ g, Tryd.prog.globalNamed "strconv.ErrRange" = some g ∧ (Tryd.prog.globals[g]?).map (·.type) = some 82 := ⟨(Tryd.prog.globalNamed "strconv.ErrRange").getD 0, by kernel_rfl, by kernel_rfl⟩
theorem vErrRange {W : World} (h : laidMetH Tryd.prog Rows.vcdBackUptoRow.laid W) : ErrN "strconv.ErrRange" W := by
  have h2 := (laidMetH_iff.1 h).1.filter (fun x => x.1 == "strconv.ErrRange")
  obtain ⟨g, hg, hgt⟩ := gErrRange
  obtain ⟨a, s, hv, _⟩ := laid_sentinel (r := []) h2 hg hgt Tryd.underlying82 rowE Tryd.underlying133 Tryd.underlying135 rfl rfl Tryd.underlying9 e1 e2
  exact ⟨_, _, hv⟩
set_option maxRecDepth 100000 in
theorem contract (H : Type) (enc : TypeId × Value → H) (W : World) (base : Nat) (args : Array Value) (ds gs : List (DataW H)) (before : List MemPlace)
    (hval0 : ∀ (j : Nat) t v, Tryd.f3.params[j]? = some t → args[j]? = some v → Value.okWide Tryd.prog W .any base t v)
    (hW : DataW.Whole enc Tryd.prog Tryd.f3.params.toList Rows.vcdBackSpec.vars false W args.toList ds gs before) (hL : laidMetH Tryd.prog Rows.vcdBackUptoRow.laid W)
    (hsz : (DataW.weightsEach Tryd.prog (Tryd.f3.params.toList ++ Rows.vcdBackSpec.plain.varTypes Tryd.prog) (ds ++ gs)).all (· ≤ reachBytes) = true)
    (hcond : Rows.uptoSmall H (ds ++ gs) = true)
    : Calls Tryd.prog 3 args W fun e W' => ∃ v, e = .returned v ∧ Rows.vcdBackSpec.post enc Tryd.prog Tryd.f3 false true false false W args v W' := by
  have hval : ∀ (j : Nat) t v, Tryd.f3.params[j]? = some t → args[j]? = some v → Value.okWide Tryd.prog W .any base t v := hval0
  have hT : PowT W := table hL
  have hE : ErrV W := ⟨vErrSyntax hL, vErrRange hL⟩
  have hW' := hW
  obtain ⟨p, q, hA0, hV, rfl, hfz, hnd⟩ := hW
  have hA : DataW.TrodAll enc Tryd.prog W 0 (fun _ => true) true Tryd.f3.params.toList args.toList ds p := hA0
  rw [Tryd.params3] at hA hval
  obtain ⟨v0, vs0, d0, ds0, p0, q0, hargs, rfl, rfl, h0, r0⟩ := trodAll_cons hA
  obtain ⟨v1, vs1, d1, ds1, p1, q1, rfl, rfl, rfl, h1, r1⟩ := trodAll_cons r0
  obtain ⟨rfl, rfl, rfl⟩ := trodAll_nil r1
  obtain rfl : args = #[v0, v1] := by cases args; simp_all
  obtain ⟨rfl, rfl⟩ := trodVars_none hV
  have k0 := h0
  have lt0 : ∀ x ∈ p0, x.block < W.heap.size := by obtain ⟨m, hm⟩ := k0; exact DataW.trod_lt m _ _ _ hm
  obtain ⟨vn0, vw0, vf0, vl0, x0, rfl, hw0, hf0, hq0⟩ := open_waveB (hval 0 26 v0 rfl rfl) h0
  obtain ⟨a1, rfl, rfl, rfl, w1⟩ := open_string Tryd.underlying9 (hval 1 9 v1 rfl rfl) h1
  clear hA0 hval0
  simp only [List.append_nil] at hW' hsz hcond
  rw [Tryd.params3] at hsz
  simp [DataW.weightsEach] at hsz
  have hr0 : RchV 26 d0 := by unfold RchV; rw [List.all_eq_true]; intro y hy; exact decide_eq_true (by first | exact hsz y hy | exact hsz y (Or.inl hy) | exact hsz y (Or.inr hy) | exact hsz y (Or.inr (Or.inl hy)) | exact hsz.1 y hy | exact hsz.2 y hy | exact hsz.2.1 y hy)
  have hbulk : Rows.uptoBulk d0 + (Rows.uptoBulk (DataW.lit (H := H) (.string a1.data.toList)) + (0)) ≤ 1048576 := of_decide_eq_true hcond
  have hi0 : Wd W vn0 vw0 vf0 vl0 x0 := ⟨hw0, (hf0 hr0).1, (hf0 hr0).2.1, by omega⟩
  refine (VcdBack_c pd x0 vn0 vw0 vf0 vl0 a1 W hi0 hT hE).mono fun e W' ⟨he, bel⟩ => ?_
  subst he
  exact ⟨_, rfl, _, _, _, [], _, [], hW', trodAll_mk1 (shut_bool Tryd.underlying4 _), (trodAll_cons_mk (Below.trod laidOut (by kernel_rfl) (of_decide_eq_true (by kernel_rfl)) k0 bel lt0) (trodAll_cons_mk (shut_string Tryd.underlying9 w1) trodAll_mk0)), rfl, bel.frame _, fun h => by cases h⟩

theorem laid_met (os : Os) : laidMet Tryd.prog Rows.vcdBackUptoRow.laid ((World.laidAll Tryd.prog os Rows.vcdBackUptoRow.laid).forCall (fun _ _ => 0) ⟨#[], #[.agg #[.slice none 0 0, .slice none 0 0, .slice none 0 0, .slice none 0 0], .string ⟨#[]⟩], []⟩).memory :=
  laidMet_laidAll _ (by kernel_rfl) (by kernel_rfl)
theorem reads (os : Os) {H : Type} (enc : TypeId × Value → H) : ∃ places, DataW.whole enc Tryd.prog ((World.laidAll Tryd.prog os Rows.vcdBackUptoRow.laid).forCall (fun _ _ => 0) ⟨#[], #[.agg #[.slice none 0 0, .slice none 0 0, .slice none 0 0, .slice none 0 0], .string ⟨#[]⟩], []⟩).memory Tryd.f3.params.toList Rows.vcdBackSpec.vars false (#[.agg #[.slice none 0 0, .slice none 0 0, .slice none 0 0, .slice none 0 0], .string ⟨#[]⟩] : Array Value).toList 8 = some ([.agg [.nil, .nil, .nil, .nil], .lit (.string [])], [], places) :=
  ⟨[], by kernel_rfl⟩

set_option maxRecDepth 100000 in
theorem lifted (os : Os) (started : os.Started) (H : Type) (enc : TypeId × Value → H) (F : Stop.Interp) :
    ReturnsInHanded {} Tryd.checked os 3 .any ((Rows.OpenSpec.upto Rows.vcdBackSpec).preRow enc Tryd.prog Tryd.f3 Rows.vcdBackUptoRow.domain false Rows.vcdBackUptoRow.laid) (((Rows.OpenSpec.upto Rows.vcdBackSpec).at F).post enc Tryd.prog Tryd.f3 false true false false) := by
  obtain ⟨places, hx⟩ := reads os enc
  refine returnsInHanded_of_row (C := Tryd.checked) (s := (Rows.OpenSpec.upto Rows.vcdBackSpec)) own started (by kernel_rfl) Tryd.func3
    (witness_row_atRef (enc := enc) (C := Tryd.checked) false (World.laidAll Tryd.prog os Rows.vcdBackUptoRow.laid) #[.agg #[.slice none 0 0, .slice none 0 0, .slice none 0 0, .slice none 0 0], .string ⟨#[]⟩] (World.laidAll_os _ _ _) (by kernel_rfl) (by kernel_rfl) (by kernel_rfl)
      (OpenSpec.preRow_of_cond 8 hx (by kernel_rfl) (fun k hk => by cases hk; kernel_rfl) (by kernel_rfl) (laid_met os))) ?_
  intro W base args ds gs before hval hW _ hcond hsz hL _ _
  exact contract H enc W base args ds gs before hval hW hL hsz (hcond _ rfl)

theorem said : Rows.vcdBackUptoRow.holds Tryd.pinned (Rows.OpenSpec.upto Rows.vcdBackSpec) :=
  OpenClaim.holds_of_cond 3 Tryd.f3 rfl rfl rfl rfl rfl rfl rfl ⟨rfl, rfl, rfl, rfl, rfl⟩ rfl rfl rfl rfl rfl (by kernel_rfl) Tryd.func3 (by kernel_rfl)
    (of_decide_eq_true (by kernel_rfl)) (by unfold Func.isWrapper; first | (rw [if_pos (by decide +kernel)]; kernel_rfl) | (rw [if_neg (by decide +kernel)]; exact ⟨rfl, rfl⟩))
    (fun os started H enc _ F => by rw [OpenClaim.pre_eq_preRow]; exact lifted os started H enc F)

theorem plain (f : FuncId) (fn : Func) (hf : Tryd.pinned.checked.prog.funcNamed "silkworm\x2fsilkwormlaw19.VcdBack" = some f) (hfn : Tryd.pinned.checked.prog.funcs[f]? = some fn) :
    true = Tryd.pinned.checked.prog.looks [] ∧ ∀ (j : Nat) t, fn.params[j]? = some t → Tryd.pinned.checked.prog.wantsStandIn t = false := by
  obtain rfl : f = 3 := Option.some.inj ((show Tryd.prog.funcNamed "silkworm\x2fsilkwormlaw19.VcdBack" = some 3 by kernel_rfl).symm.trans hf) |>.symm
  obtain rfl : fn = Tryd.f3 := (Option.some.inj (Tryd.func3.symm.trans hfn)).symm
  refine ⟨by kernel_rfl, fun j t ht => ?_⟩
  rw [Tryd.params3] at ht
  have hm : t ∈ #[26, 9] := Array.mem_of_getElem? ht
  have hall : (#[26, 9] : Array TypeId).all (fun t => !Tryd.prog.wantsStandIn t) = true := by kernel_rfl
  have hb := Array.all_eq_true_iff_forall_mem.1 hall t hm
  have hb2 : (!Tryd.prog.wantsStandIn t) = true := hb
  show Tryd.prog.wantsStandIn t = false
  cases hx : Tryd.prog.wantsStandIn t with
  | false => rfl
  | true => rw [hx] at hb2; cases hb2
end vcdBack

theorem VcdBack_holds : Rows.VcdBackUptoCardSaid :=
  Claim7.holds_tied_plain_at .later [] _ _ _ _ vcdBack.said (fun _ h => by cases h) (by kernel_rfl) (fun _ h => by cases h) vcdBackUpto_row_tie rfl ⟨rfl, rfl⟩ (by kernel_rfl) rfl vcdBack.plain (by kernel_rfl)
#print axioms VcdBack_holds
end Go.Proofs.YtfcongggmjijfaaDoor
