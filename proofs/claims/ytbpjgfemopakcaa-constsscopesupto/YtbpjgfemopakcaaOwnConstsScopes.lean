/-
  For every three lists of names with numbers that hold together at most 1,048,576 values and letters: names are as they were set last, in a scope and in the one made within it, there and here apart; what may not be is refused. Condition: the second form's bound on what comes in.
-/
import Derived.Test.YtbpjgfemopakcaaRows
import Derived.Test.YtbpjgfemopakcaaCV
import Derived.Test.YtbpjgfemopakcaaCX
namespace Go.Proofs.Ytbpjgfemopakcaa
namespace constsScopes
open Go.ChangeShapes Go.WideShapes Go.ChangeAt Go.RowKit
set_option linter.unusedVariables false

theorem own : ownKnob Try.prog.godebug = none := by kernel_rfl
theorem laidOut : laidOutB Try.prog = true := by kernel_rfl
theorem hlaid (w : World) : laidMetH Try.prog Rows.constsScopesUptoRow.laid w := by
  show laidMet Try.prog [] w
  refine ⟨[], ?_, List.nodup_nil, fun b off h => by cases h⟩
  first | rfl | trivial | exact .nil | (constructor; done) | simp [DataW.LaidVars]

set_option maxRecDepth 100000 in
theorem lifted (os : Os) (started : os.Started) (H : Type) (enc : TypeId × Value → H) (F : Stop.Interp) :
    ReturnsInHanded {} Try.checked os 3 .any ((Rows.OpenSpec.upto Rows.constsScopesSpec).preRow enc Try.prog Try.f3 Rows.constsScopesUptoRow.domain false Rows.constsScopesUptoRow.laid) (((Rows.OpenSpec.upto Rows.constsScopesSpec).at F).post enc Try.prog Try.f3 false true false false) := by
  refine returnsInHanded_of_row (C := Try.checked) (s := Rows.OpenSpec.upto Rows.constsScopesSpec) own started (by kernel_rfl) Try.func3 ?wit ?_
  case wit =>
    obtain ⟨w, t, i, a1, a2, a3, a4, ⟨hp, hz⟩, a6⟩ := OpenSpec.witness (enc := enc) (C := Try.checked) (os := os) (f := 3) (fn := Try.f3) (s := Rows.OpenSpec.upto Rows.constsScopesSpec) (k := Rows.uptoSmall) rfl (conds := Rows.constsScopesUptoRow.domain) (apart := false) false ⟨#[], #[.slice none 0 0, .slice none 0 0, .slice none 0 0], []⟩ 8 (by kernel_rfl) (by kernel_rfl) (by kernel_rfl)
      (x := ([.nil, .nil, .nil], [], [])) (by kernel_rfl) rfl (by kernel_rfl)
    exact ⟨w, t, i, a1, a2, a3, a4, ⟨⟨hp, hlaid _⟩, hz⟩, a6⟩
  intro W base args ds gs before hval0 hW _ hcond _ _ hsh _
  have hk := hcond _ rfl
  have hval : ∀ (j : Nat) t v, Try.f3.params[j]? = some t → args[j]? = some v → Value.okWide Try.prog W .any base t v := hval0
  have hW' := hW
  obtain ⟨p, q, hA0, hV, rfl, hfz, hnd⟩ := hW
  have hA : DataW.TrodAll enc Try.prog W 0 (fun _ => true) true Try.f3.params.toList args.toList ds p := hA0
  rw [Try.params3] at hA hval
  obtain ⟨v0, vs0, d0, ds0, p0, q0, hargs, rfl, rfl, h0, r0⟩ := trodAll_cons hA
  obtain ⟨v1, vs1, d1, ds1, p1, q1, rfl, rfl, rfl, h1, r1⟩ := trodAll_cons r0
  obtain ⟨v2, vs2, d2, ds2, p2, q2, rfl, rfl, rfl, h2, r2⟩ := trodAll_cons r1
  obtain ⟨rfl, rfl, rfl⟩ := trodAll_nil r2
  obtain rfl : args = #[v0, v1, v2] := by cases args; simp_all
  obtain ⟨rfl, rfl⟩ := trodVars_none hV
  obtain ⟨a0, n0, c0, rfl⟩ := okWide_slice Try.underlying22 (hval 0 22 v0 rfl rfl)
  obtain ⟨a1, n1, c1, rfl⟩ := okWide_slice Try.underlying22 (hval 1 22 v1 rfl rfl)
  obtain ⟨a2, n2, c2, rfl⟩ := okWide_slice Try.underlying22 (hval 2 22 v2 rfl rfl)
  clear hA0 hval0
  simp only [List.append_nil] at hW' hk
  have hlt : ∀ x ∈ p0 ++ (p1 ++ p2), x.block < W.heap.size := fun x hx => by simpa using hW'.lt x (by simpa using hx)
  obtain ⟨l0, b0, s0, k0⟩ := open_names h0
  obtain ⟨l1, b1, s1, k1⟩ := open_names h1
  obtain ⟨l2, b2, s2, k2⟩ := open_names h2
  have hbulk : Rows.uptoBulk d0 + (Rows.uptoBulk d1 + (Rows.uptoBulk d2 + 0)) ≤ 1048576 := of_decide_eq_true hk
  have hargs2 : ∀ {v : Value} {d : DataW H} {p : List MemPlace} (W' : World), Below W.heap.size W W' → DataW.Trod enc Try.prog W 0 (fun _ => true) true 22 v d p → (∀ x ∈ p, x.block < W.heap.size) → DataW.Trod enc Try.prog W' 0 (fun b => decide (b < W.heap.size)) true 22 v d p :=
    fun W' hn h hl => Below.trod laidOut (by kernel_rfl) (of_decide_eq_true (by kernel_rfl)) h hn hl
  refine (ConstsScopes_c _ _ _ l0 l1 l2 W b0 b1 b2 (by omega) s0 s1 s2).mono fun e W' ⟨he, bel⟩ => ?_
  subst he
  exact ⟨_, rfl, _, _, _, [], p0 ++ (p1 ++ p2), [], hW', trodAll_mk1 (shut_bool Try.underlying4 _), (trodAll_cons_mk (hargs2 W' bel h0 (fun x hx => hlt x (by simp [hx]))) (trodAll_cons_mk (hargs2 W' bel h1 (fun x hx => hlt x (by simp [hx]))) (trodAll_mk1 (hargs2 W' bel h2 (fun x hx => hlt x (by simp [hx])))))), rfl, bel.frame _, fun h => by cases h⟩
end constsScopes

theorem ConstsScopes_holds : Rows.ConstsScopesUptoSaid :=
  OpenClaim.holds_of_cond 3 Try.f3 rfl rfl rfl rfl rfl rfl rfl ⟨rfl, rfl, rfl, rfl, rfl⟩ rfl rfl rfl rfl rfl (by kernel_rfl) Try.func3 (by kernel_rfl)
    (of_decide_eq_true (by kernel_rfl)) (by unfold Func.isWrapper; first | (rw [if_pos (by decide +kernel)]; kernel_rfl) | (rw [if_neg (by decide +kernel)]; exact ⟨rfl, rfl⟩))
    (fun os started H enc _ F => by rw [OpenClaim.pre_eq_preRow]; exact constsScopes.lifted os started H enc F)
#print axioms ConstsScopes_holds
end Go.Proofs.Ytbpjgfemopakcaa
