/- What the program asks of a netlist is what the document asks. -/
import Derived.Test.YtpdcmehjndhcjaaKK
import Derived.Test.YtpdcmehjndhcjaaKJ
namespace Go.Proofs.Ytpdcmehjndhcjaa
open Go.RowKit Lg Nl Go.Maps
set_option linter.unusedVariables false
set_option linter.unusedSimpArgs false

theorem wrapId {z : Int} (h1 : -9223372036854775808 ≤ z) (h2 : z ≤ 9223372036854775807) : wrap64 z = z := by
  unfold wrap64; omega
theorem sumW_ok : ∀ (ws : List Int) (a : Int), (∀ z ∈ ws, 1 ≤ z ∧ z ≤ 256) → 0 ≤ a → a + 256 * ws.length ≤ 9223372036854775807 → ws.foldl (fun a z => wrap64 (a + z)) a = ws.foldl (· + ·) a
  | [], a, _, _, _ => rfl
  | z :: r, a, h, h0, hb => by
    obtain ⟨z1, z2⟩ := h z (List.mem_cons_self ..)
    rw [List.length_cons] at hb
    rw [List.foldl_cons, List.foldl_cons, wrapId (by omega) (by omega)]
    exact sumW_ok r (a + z) (fun y hy => h y (List.mem_cons_of_mem _ hy)) (by omega) (by omega)
theorem sumW_eq {ws : List Int} (h : ∀ z ∈ ws, 1 ≤ z ∧ z ≤ 256) (hl : ws.length ≤ 17592186044416) : sumW ws = sumI ws := sumW_ok ws 0 h (by omega) (by omega)
theorem sum_ge : ∀ {ws : List Int}, (∀ z ∈ ws, 1 ≤ z ∧ z ≤ 256) → (ws.length : Int) ≤ sumI ws
  | [], _ => by simp [sumI]
  | z :: r, h => by
    have ih := sum_ge (ws := r) (fun y hy => h y (List.mem_cons_of_mem _ hy))
    have := h z (List.mem_cons_self ..)
    rw [sumI_cons, List.length_cons]; omega
theorem opB_eq (op wd hi lo m sm w0 w1 w2 : Int) (h1 : 1 ≤ wd) (h2 : wd ≤ 256) (h0 : w0 ≤ 256) (hs : m ≤ sm) (hm : 0 ≤ m) : opB op wd hi lo m sm w0 w1 w2 = decide (opW op hi lo m sm w0 w1 w2 = wd) := by
  rw [Bool.eq_iff_iff, decide_eq_true_iff]
  unfold opB opW
  by_cases h4 : op = 4
  · subst h4
    simp
    constructor
    · rintro ⟨⟨⟨⟨a, b⟩, c⟩, d⟩, e⟩
      rw [if_pos ⟨a, b, c, d⟩]
      rw [wrapId (z := hi - lo) (by omega) (by omega), wrapId (by omega) (by omega)] at e
      exact e.symm
    · intro e
      split at e
      · rename_i h
        obtain ⟨a, b, c, d⟩ := h
        refine ⟨⟨⟨⟨a, b⟩, c⟩, d⟩, ?_⟩
        rw [wrapId (z := hi - lo) (by omega) (by omega), wrapId (by omega) (by omega)]
        exact e.symm
      · omega
  · repeat' split
    all_goals simp_all <;> omega
theorem ws_mem {l : List Nd} {ins : List Int} (hw : l.all wideB = true) (hin : ins.all (inB l.length) = true) : ∀ z ∈ wsOf l ins, 1 ≤ z ∧ z ≤ 256 := by
  intro z hz
  unfold wsOf at hz
  obtain ⟨i, hi, rfl⟩ := List.mem_map.1 hz
  rw [List.all_eq_true] at hin
  exact wdAt_bd hw (hin i hi)
theorem wn_le {ws : List Int} (h : ∀ z ∈ ws, 1 ≤ z ∧ z ≤ 256) (i : Nat) : wn ws i ≤ 256 := by
  unfold wn
  rw [List.getD_eq_getElem?_getD]
  rcases hq : ws[i]? with _ | z
  · simp
  · exact (h z (List.mem_of_getElem? hq)).2
theorem fit_node {l : List Nd} {x : Nd} (hw : l.all wideB = true) (hin : x.ins.all (inB l.length) = true) (hx : wideB x = true) (hl : x.ins.length ≤ 17592186044416) : fitX x (wsOf l x.ins) = nodeB x (wsOf l x.ins) := by
  have hm := ws_mem hw hin
  have hs := sumW_eq hm (by rw [wsOf_len]; exact hl)
  have hg := sum_ge hm
  have h0 := wn_le hm 0
  simp [wideB] at hx
  unfold fitX
  rw [hs]
  generalize wsOf l x.ins = ws at *
  rw [opB_eq _ _ _ _ _ _ _ _ _ hx.1 hx.2 h0 hg (by omega)]
  unfold fitN nodeB opWs
  rw [Bool.eq_iff_iff]
  repeat' split
  all_goals simp_all <;> omega
/-- what the program asks of a netlist -/
def ckB (l : List Nd) (nets : List Int) (pt : Int) : Bool := decide (l.length ≤ 4096 ∧ pt = (nets.length : Int)) && l.all (mbB l) && portB l nets
theorem ck_may {l : List Nd} {nets : List Int} (pt : Int) (hf : Fits l nets) : ckB l nets pt = mayN l nets pt := by
  unfold ckB mayN
  by_cases hw : l.all wideB = true
  · have e : l.all (mbB l) = (l.all (shapeB l) && l.all fun x => nodeB x (wsOf l x.ins)) := by
      rw [Bool.eq_iff_iff, Bool.and_eq_true, List.all_eq_true, List.all_eq_true, List.all_eq_true]
      have key : ∀ x ∈ l, (mbB l x = true ↔ shapeB l x = true ∧ nodeB x (wsOf l x.ins) = true) := by
        intro x hx
        have hwx : wideB x = true := by rw [List.all_eq_true] at hw; exact hw x hx
        unfold mbB shapeB
        rw [hwx]
        by_cases hin : x.ins.all (inB l.length) = true
        · rw [hin, fit_node hw hin hwx (hf.i x hx)]; simp; exact And.comm
        · have : x.ins.all (inB l.length) = false := by simpa using hin
          rw [this]; simp
      exact ⟨fun h => ⟨fun x hx => ((key x hx).1 (h x hx)).1, fun x hx => ((key x hx).1 (h x hx)).2⟩, fun h x hx => (key x hx).2 ⟨h.1 x hx, h.2 x hx⟩⟩
    rw [e]
    cases (decide (l.length ≤ 4096 ∧ pt = (nets.length : Int))) <;> cases (l.all (shapeB l)) <;> cases (portB l nets) <;> simp
  · have hw' : l.all wideB = false := by simpa using hw
    rw [List.all_eq_false] at hw'
    obtain ⟨x, hx, h⟩ := hw'
    have h1 : l.all (mbB l) = false := by rw [List.all_eq_false]; exact ⟨x, hx, by unfold mbB; simp [h]⟩
    have h2 : l.all (shapeB l) = false := by rw [List.all_eq_false]; exact ⟨x, hx, by unfold shapeB; simp [h]⟩
    rw [h1, h2]; simp
end Go.Proofs.Ytpdcmehjndhcjaa
