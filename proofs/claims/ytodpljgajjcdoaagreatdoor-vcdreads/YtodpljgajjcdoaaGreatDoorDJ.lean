/- Layer 19: VcdCodes, walked over what the program's functions tell. -/
import Derived.Test.YtodpljgajjcdoaaGreatDoorDI
namespace Go.Proofs.YtodpljgajjcdoaaGreatDoor
set_option maxRecDepth 100000
open Go.RowKit Lg Nl Go.Maps Wf Vd
set_option linter.unusedVariables false
set_option linter.unusedSimpArgs false

structure PD : Prop where
  wr : WriteC
  re : ReadA
  co : CodeC
theorem PD.aw (h : PD) (w : World) (hp : PowT w) : Calls Tryz.prog 4 #[] w fun e w' => e = .returned (.bool true) ∧ Below w.heap.size w w' := awake19 h.wr h.re h.co w hp
def emp : ByteArray := ⟨#[]⟩
theorem S_nil : S [] = emp := rfl
theorem cd_no {n : Int} (h : n < 0 ∨ 4096 ≤ n) : S (cdT n) = ⟨#[]⟩ ∧ cdE n = 1 := by
  have e : okN n = false := decide_eq_false (by omega)
  unfold cdT cdE
  rw [e, if_neg (by decide), if_neg (by decide)]
  exact ⟨rfl, rfl⟩
theorem cd_yes {n : Nat} (h : n < 4096) : S (cdT n) = S (codeL n) ∧ cdE n = 0 := by
  have e : okN n = true := decide_eq_true (by omega)
  unfold cdT cdE
  rw [e, if_pos rfl, if_pos rfl]
  exact ⟨rfl, rfl⟩
theorem S_inj {a b : List UInt8} (h : S a = S b) : a = b := by
  have := congrArg (fun s : ByteArray => s.data.toList) h
  simpa [S] using this
theorem code_same {n m : Nat} (hn : n < 4096) (hm : m < 4096) : ((S (codeL n)).toList == (S (codeL m)).toList) = ((n : Int) == (m : Int)) := by
  by_cases h : n = m
  · subst h
    rw [beq_self_eq_true, beq_self_eq_true]
  · rw [ne_listV (fun e => h (codeL_inj hn hm (S_inj e)))]
    exact (beq_eq_false_iff_ne.2 (fun e => h (by omega))).symm
end Go.Proofs.YtodpljgajjcdoaaGreatDoor
