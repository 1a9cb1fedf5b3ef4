/- Layer 3 of the program: the runner at its block. -/
import Derived.Test.YthdhmlojihpfkaaGreatZA
import Derived.Deep.RegionLaw
namespace Go.Proofs.YthdhmlojihpfkaaGreat
open Go.RowKit Lg Go.Maps
set_option linter.unusedVariables false
set_option linter.unusedSimpArgs false

def brc (b : Br) : List Value := [.int .i64 b.p, .bool b.a, .bool b.k, .bool b.t]
def brcs (o : List Br) : List Value := o.flatMap brc
theorem brcs_app (a b : List Br) : brcs (a ++ b) = brcs a ++ brcs b := List.flatMap_append
theorem brcs_one (t : Br) : brcs [t] = brc t := by simp [brcs]
theorem brcs_len (a : List Br) : (brcs a).length = a.length * 4 := by
  induction a with
  | nil => rfl
  | cons t a ih => rw [show brcs (t :: a) = brc t ++ brcs a from rfl, List.length_append, ih, List.length_cons]; show 4 + _ = _; omega
theorem brcs_at {o : List Br} {i : Nat} {b : Br} (h : o[i]? = some b) : (brcs o)[i * 4]? = some (.int .i64 b.p) ∧ (brcs o)[i * 4 + 1]? = some (.bool b.a) ∧ (brcs o)[i * 4 + 2]? = some (.bool b.k) ∧ (brcs o)[i * 4 + 3]? = some (.bool b.t) := by
  induction o generalizing i with
  | nil => cases h
  | cons a l ih =>
    have e : brcs (a :: l) = brc a ++ brcs l := rfl
    have el : (brc a).length = 4 := rfl
    cases i with
    | zero =>
      simp at h; subst h
      exact ⟨rfl, rfl, rfl, rfl⟩
    | succ i =>
      have := ih (i := i) (by simpa using h)
      rw [e]
      refine ⟨?_, ?_, ?_, ?_⟩
      · rw [List.getElem?_append_right (by rw [el]; omega), el, show (i + 1) * 4 - 4 = i * 4 by omega]; exact this.1
      · rw [List.getElem?_append_right (by rw [el]; omega), el, show (i + 1) * 4 + 1 - 4 = i * 4 + 1 by omega]; exact this.2.1
      · rw [List.getElem?_append_right (by rw [el]; omega), el, show (i + 1) * 4 + 2 - 4 = i * 4 + 2 by omega]; exact this.2.2.1
      · rw [List.getElem?_append_right (by rw [el]; omega), el, show (i + 1) * 4 + 3 - 4 = i * 4 + 3 by omega]; exact this.2.2.2
/-- how a map's element reads: as itself -/
def rdV (v : Value) : Option (DataW Value × List MemPlace) := some (.held v, [])
/-- the runner's block -/
structure RB where
  cap : Nat
  g : Nat
  n : Nat
  e : Tok
  at_ : Nat
  mb : Nat
  vo : Value
  vk : Value
def RB.cells (r : RB) : Array Value := #[.slice (some ⟨r.g, 0, none⟩) r.n r.cap, .int .i64 r.e.k, .string (S r.e.x), .int .i64 r.e.p, .int .i64 r.at_, .map (some r.mb), r.vo, r.vk]
theorem last_of {o : List Br} {b : Br} (h : o.getLast? = some b) : o[o.length - 1]? = some b := by rw [← h, List.getLast?_eq_getElem?]

end Go.Proofs.YthdhmlojihpfkaaGreat
