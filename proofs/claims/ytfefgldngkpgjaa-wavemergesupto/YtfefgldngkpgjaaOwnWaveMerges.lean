/-
  For every waveform and all parts that hold together at most 1,048,576 values and letters: parts' changes are merged by their times, then by their nets, as the document says, or it is refused. Condition: the second form's bound on what comes in.
-/
import Derived.Test.YtfefgldngkpgjaaRows
import Derived.Test.YtfefgldngkpgjaaVLp
import Derived.Test.YtfefgldngkpgjaaVLq
namespace Go.Proofs.Ytfefgldngkpgjaa
set_option maxRecDepth 100000
namespace waveMerges
open Go.ChangeShapes Go.WideShapes Go.ChangeAt Go.RowKit
set_option linter.unusedVariables false

theorem own : ownKnob Try.prog.godebug = none := by kernel_rfl
theorem laidOut : laidOutB Try.prog = true := by kernel_rfl
theorem hlaid (w : World) : laidMetH Try.prog Rows.waveMergesUptoRow.laid w := by
  show laidMet Try.prog [] w
  refine ⟨[], ?_, List.nodup_nil, fun b off h => by cases h⟩
  first | rfl | trivial | exact .nil | (constructor; done) | simp [DataW.LaidVars]

set_option maxRecDepth 100000 in
theorem lifted (os : Os) (started : os.Started) (H : Type) (enc : TypeId × Value → H) (F : Stop.Interp) :
    ReturnsInHanded {} Try.checked os 6 .any ((Rows.OpenSpec.upto Rows.waveMergesSpec).preRow enc Try.prog Try.f6 Rows.waveMergesUptoRow.domain false Rows.waveMergesUptoRow.laid) (((Rows.OpenSpec.upto Rows.waveMergesSpec).at F).post enc Try.prog Try.f6 false true false false) := by
  refine returnsInHanded_of_row (C := Try.checked) (s := Rows.OpenSpec.upto Rows.waveMergesSpec) own started (by kernel_rfl) Try.func6 ?wit ?_
  case wit =>
    obtain ⟨w, t, i, a1, a2, a3, a4, ⟨hp, hz⟩, a6⟩ := OpenSpec.witness (enc := enc) (C := Try.checked) (os := os) (f := 6) (fn := Try.f6) (s := Rows.OpenSpec.upto Rows.waveMergesSpec) (k := Rows.uptoSmall) rfl (conds := Rows.waveMergesUptoRow.domain) (apart := false) false ⟨#[], #[.agg #[.slice none 0 0, .slice none 0 0, .slice none 0 0, .slice none 0 0], .slice none 0 0], []⟩ 8 (by kernel_rfl) (by kernel_rfl) (by kernel_rfl)
      (x := ([.agg [.nil, .nil, .nil, .nil], .nil], [], [])) (by kernel_rfl) rfl (by kernel_rfl)
    exact ⟨w, t, i, a1, a2, a3, a4, ⟨⟨hp, hlaid _⟩, hz⟩, a6⟩
  intro W base args ds gs before hval0 hW _ hcond hsz _ hsh _
  have hk := hcond _ rfl
  have hval : ∀ (j : Nat) t v, Try.f6.params[j]? = some t → args[j]? = some v → Value.okWide Try.prog W .any base t v := hval0
  have hW' := hW
  obtain ⟨p, q, hA0, hV, rfl, hfz, hnd⟩ := hW
  have hA : DataW.TrodAll enc Try.prog W 0 (fun _ => true) true Try.f6.params.toList args.toList ds p := hA0
  rw [Try.params6] at hA hval
  obtain ⟨v0, vs0, d0, ds0, p0, q0, hargs, rfl, rfl, h0, r0⟩ := trodAll_cons hA
  obtain ⟨v1, vs1, d1, ds1, p1, q1, rfl, rfl, rfl, h1, r1⟩ := trodAll_cons r0
  obtain ⟨rfl, rfl, rfl⟩ := trodAll_nil r1
  obtain rfl : args = #[v0, v1] := by cases args; simp_all
  obtain ⟨rfl, rfl⟩ := trodVars_none hV
  have lt0 : ∀ x ∈ p0, x.block < W.heap.size := by obtain ⟨m, hm⟩ := h0; exact DataW.trod_lt m _ _ _ hm
  have lt1 : ∀ x ∈ p1, x.block < W.heap.size := by obtain ⟨m, hm⟩ := h1; exact DataW.trod_lt m _ _ _ hm
  have k0 := h0
  have k1 := h1
  obtain ⟨vn0, vw0, vf0, vl0, x0, rfl, hw0, hf0⟩ := open_wave (hval 0 26 v0 rfl rfl) h0
  obtain ⟨ps, hps, hpr, hpb⟩ := open_parts (hval 1 41 v1 rfl rfl) h1
  clear hA0 hval0
  simp only [List.append_nil] at hW' hk hsz
  have hsz : (DataW.weightsEach Try.prog Try.f6.params.toList [d0, d1]).all (· ≤ reachBytes) = true := hsz
  rw [Try.params6] at hsz
  simp [DataW.weightsEach] at hsz
  have hr0 : RchV 26 d0 := by unfold RchV; rw [List.all_eq_true]; intro y hy; exact decide_eq_true (by first | exact hsz y hy | exact hsz y (Or.inl hy) | exact hsz.1 y hy)
  have hr1 : RchV 41 d1 := by unfold RchV; rw [List.all_eq_true]; intro y hy; exact decide_eq_true (by first | exact hsz y (Or.inr hy) | exact hsz.2 y hy)
  have hbulk : Rows.uptoBulk d0 + (Rows.uptoBulk d1 + 0) ≤ 1048576 := of_decide_eq_true hk
  have hi0 : Wi W vn0 vw0 vf0 vl0 x0 := ⟨hw0, (hf0 hr0).1, (hf0 hr0).2.1, (hf0 hr0).2.2⟩
  have hi1 : Pi W v1 ps := ⟨hps, by omega, by omega, fun q hq c hc => Nat.le_trans (hpr hr1 q hq c hc) (by unfold maxLen; decide)⟩
  refine (WaveMerges_c pcV merge_c x0 ps vn0 vw0 vf0 vl0 v1 W hi0 hi1).mono fun e W' ⟨he, bel⟩ => ?_
  subst he
  exact ⟨_, rfl, _, _, _, [], _, [], hW', trodAll_mk1 (shut_bool Try.underlying4 _), (trodAll_cons_mk (Below.trod laidOut (by kernel_rfl) (of_decide_eq_true (by kernel_rfl)) k0 bel lt0) (trodAll_cons_mk (Below.trod laidOut (by kernel_rfl) (of_decide_eq_true (by kernel_rfl)) k1 bel lt1) trodAll_mk0)), rfl, bel.frame _, fun h => by cases h⟩
end waveMerges

theorem WaveMerges_holds : Rows.WaveMergesUptoSaid :=
  OpenClaim.holds_of_cond 6 Try.f6 rfl rfl rfl rfl rfl rfl rfl ⟨rfl, rfl, rfl, rfl, rfl⟩ rfl rfl rfl rfl rfl (by kernel_rfl) Try.func6 (by kernel_rfl)
    (of_decide_eq_true (by kernel_rfl)) (by unfold Func.isWrapper; first | (rw [if_pos (by decide +kernel)]; kernel_rfl) | (rw [if_neg (by decide +kernel)]; exact ⟨rfl, rfl⟩))
    (fun os started H enc _ F => by rw [OpenClaim.pre_eq_preRow]; exact waveMerges.lifted os started H enc F)
#print axioms WaveMerges_holds
end Go.Proofs.Ytfefgldngkpgjaa
