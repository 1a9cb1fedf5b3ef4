/- Layer 19: a waveform that is handed in, opened, and its bulk. -/
import Derived.Test.YtfcongggmjijfaaDoorRows
import Derived.Test.YtfcongggmjijfaaDoorVO
import Derived.JoinedCond
import Derived.Deep.DeepHandedRow
import Derived.Carry
namespace Go.Proofs.YtfcongggmjijfaaDoor
set_option maxRecDepth 100000
open Go.ChangeShapes Go.WideShapes Go.ChangeAt Go.RowKit Lg Nl Go.Maps Wf
set_option linter.unusedVariables false
set_option linter.unusedSimpArgs false

theorem bulk1 {H : Type} (d : DataW H) : 1 ≤ Rows.uptoBulk d := by
  cases d with
  | lit l => cases l <;> simp [Rows.uptoBulk]
  | nil => simp [Rows.uptoBulk]
  | ptr d => simp [Rows.uptoBulk]
  | slice elems spare => simp [Rows.uptoBulk]
  | agg parts => simp [Rows.uptoBulk]
  | iface t d => simp [Rows.uptoBulk]
  | map entries => simp [Rows.uptoBulk]
  | held h => simp [Rows.uptoBulk]
theorem bulkAll {H : Type} (D : Nat → DataW H) : ∀ (r : List Nat), r.length ≤ Rows.uptoBulkAll (r.map D)
  | [] => by simp
  | i :: r => by
    have ih := bulkAll D r
    have h0 := bulk1 (D i)
    simp only [List.map_cons, Rows.uptoBulkAll, List.length_cons]
    omega
section
variable {H : Type} {enc : TypeId × Value → H} {W : World} {spare : Nat → Bool} {held : Bool} {fuel : Nat} {cs : List Value} {x : DataW H × List MemPlace}
theorem op_changesB (h : DataW.trod enc Tryd.prog W 0 spare held fuel 24 cs = some x) : ∃ v l, cs = [v] ∧ ChAt W v l ∧ (RchV 24 x.1 → l.length * 32 ≤ reachBytes ∧ ∀ y ∈ l, y.v.size ≤ reachBytes) ∧ l.length + 1 ≤ Rows.uptoBulk x.1 := by
  rcases Go.Deep.open_slice Tryd.underlying24 h with ⟨rfl, rfl⟩ | ⟨a, len, cap, m, n, D, Pl, rfl, _, hl, hm, hmm, rfl, hx⟩
  · exact ⟨_, [], rfl, ⟨none, 0, rfl, ⟨Nat.le_refl _, fun _ => rfl⟩, Or.inl rfl⟩, fun _ => ⟨by decide, fun y hy => by cases hy⟩, by simp [Rows.uptoBulk]⟩
  · have hlm : len ≤ m := by rw [hmm]; split <;> omega
    rw [vcC] at hx
    have hv : ∀ i, i < len → ∃ y : Ch, (∀ j u, (chC y)[j]? = some u → W.cell? (a.add (i * 3 + j)) = some u) ∧ (RchV 41 (D i) → y.v.size ≤ reachBytes) := fun i hi => by
      obtain ⟨cs', h1, h2⟩ := hx i (by omega)
      obtain ⟨y, rfl, hr⟩ := op_change h2
      refine ⟨y, fun j u hu => ?_, hr⟩
      have hj : j < 3 := (List.getElem?_eq_some_iff.1 hu).1
      have := (World.cells?_some h1).2.2 j hj
      rw [Go.Deep.add_add] at this
      rw [this]; exact hu
    have inh : Inhabited Ch := ⟨ch0⟩
    obtain ⟨F, hF⟩ := Go.Deep.choose_lt (α := Ch) (fun i hi => hv i hi)
    refine ⟨_, (List.range len).map fun i => F i, rfl, ⟨some a, cap, by simp, ⟨by simpa using hl, fun e => by cases e⟩, ?_⟩, fun hr => ?_, ?_⟩
    · by_cases h0 : len = 0
      · exact Or.inl (by simp [h0])
      · have c0 := (hF 0 (by omega)).1 0 _ rfl
        have hsp := World.cell?_spot c0
        have hbl := cellLtV c0
        obtain ⟨b, off, spot⟩ := a
        have hspot : spot = none := by simpa [Addr.add] using hsp
        subst hspot
        refine Or.inr ⟨b, off, rfl, by simpa [Addr.add] using hbl, fun i hi j u hu => ?_⟩
        have hi' : i < len := by simpa using hi
        simp only [List.getElem_map, List.getElem_range] at hu
        have c := (hF i hi').1 j u hu
        rw [addOv] at c
        rw [Nat.add_assoc]; exact c
    · unfold RchV DataW.weights at hr
      rw [Tryd.underlying24] at hr
      simp only [List.all_cons, Bool.and_eq_true, decide_eq_true_eq, List.length_map, List.length_range, vbC, List.all_append, List.all_eq_true] at hr
      refine ⟨by rw [List.length_map, List.length_range]; have := hr.1; omega, fun y hy => ?_⟩
      obtain ⟨i, hi, rfl⟩ := List.mem_map.1 hy
      exact (hF i (List.mem_range.1 hi)).2 (wAllV hr.2.1 i hi)
    · have := bulkAll D (List.range len)
      simp only [List.length_map, List.length_range, Rows.uptoBulk] at this ⊢
      omega
theorem op_waveB (h : DataW.trod enc Tryd.prog W 0 spare held fuel 26 cs = some x) : ∃ vn vw vf vl y, cs = [vn, vw, vf, vl] ∧ WvAt W vn vw vf vl y ∧ (RchV 26 x.1 → Sz y ∧ Bd y ∧ y.li.length ≤ 4398046511000) ∧ y.li.length + 1 ≤ Rows.uptoBulk x.1 := by
  obtain ⟨xs, n, rfl, rfl, hl, hxl, hf⟩ := DataW.trod_struct Tryd.underlying26 h
  rw [vcW] at hl
  match cs, hl with
  | [c0, c1, c2, c3], _ =>
    match xs, hxl with
    | [x0, x1, x2, x3], _ =>
      have k0 : DataW.trod enc Tryd.prog W 0 spare held n 22 [c0] = some x0 := by simpa [vcSs, vcSi, vcSc] using hf 0 _ rfl
      have k1 : DataW.trod enc Tryd.prog W 0 spare held n 23 [c1] = some x1 := by simpa [vcSs, vcSi, vcSc] using hf 1 _ rfl
      have k2 : DataW.trod enc Tryd.prog W 0 spare held n 22 [c2] = some x2 := by simpa [vcSs, vcSi, vcSc] using hf 2 _ rfl
      have k3 : DataW.trod enc Tryd.prog W 0 spare held n 24 [c3] = some x3 := by simpa [vcSs, vcSi, vcSc] using hf 3 _ rfl
      obtain ⟨v0, l0, e0, h0, w0⟩ := op_strs k0
      obtain ⟨v1, l1, e1, h1, w1⟩ := op_intsV k1
      obtain ⟨v2, l2, e2, h2, w2⟩ := op_strs k2
      obtain ⟨v3, l3, e3, h3, w3, g3⟩ := op_changesB k3
      simp only [List.cons.injEq, and_true] at e0 e1 e2 e3
      subst e0 e1 e2 e3
      refine ⟨_, _, _, _, ⟨l0, l1, l2, l3⟩, rfl, ⟨h0, h1, h2, h3⟩, fun hr => ?_, ?_⟩
      rotate_left
      · show l3.length + 1 ≤ _
        have e := bulk1 x0.1
        simp only [List.map_cons, List.map_nil, Rows.uptoBulk, Rows.uptoBulkAll]
        omega
      unfold RchV at hr
      rw [DataW.weights.eq_def] at hr
      simp only [Tryd.underlying26, List.map_cons, List.map_nil] at hr
      simp [DataW.weightsEach] at hr
      have r0 := w0 (by unfold RchV; rw [List.all_eq_true]; intro y hy; exact decide_eq_true (hr.1 y hy))
      have r1 := w1 (by unfold RchV; rw [List.all_eq_true]; intro y hy; exact decide_eq_true (hr.2.1 y hy))
      have r2 := w2 (by unfold RchV; rw [List.all_eq_true]; intro y hy; exact decide_eq_true (hr.2.2.1 y hy))
      have r3 := w3 (by unfold RchV; rw [List.all_eq_true]; intro y hy; exact decide_eq_true (hr.2.2.2 y hy))
      have hR : reachBytes = 140737488351232 := rfl
      have hM : 140737488351232 ≤ maxLen := by unfold maxLen; decide
      rw [hR] at r0 r1 r2 r3
      exact ⟨⟨fun s hs => Nat.le_trans (r0.2 s hs) hM, fun s hs => Nat.le_trans (r2.2 s hs) hM, fun s hs => Nat.le_trans (r3.2 s hs) hM, by show l3.length ≤ _; omega⟩, ⟨by show l0.length ≤ _; omega, by show l1.length ≤ _; omega, by show l2.length ≤ _; omega, by show l3.length ≤ _; omega⟩, by show l3.length ≤ _; omega⟩
end
theorem open_waveB {H : Type} {enc : TypeId × Value → H} {W : World} {base : Nat} {v : Value} {d : DataW H} {p : List MemPlace} (hv : Value.okWide Tryd.prog W .any base 26 v) (h : DataW.Trod enc Tryd.prog W 0 (fun _ => true) true 26 v d p) :
    ∃ vn vw vf vl y, v = .agg #[vn, vw, vf, vl] ∧ WvAt W vn vw vf vl y ∧ (RchV 26 d → Sz y ∧ Bd y ∧ y.li.length ≤ 4398046511000) ∧ y.li.length + 1 ≤ Rows.uptoBulk d := by
  obtain ⟨fuel, hf⟩ := h
  simp only [Value.okWide, Tryd.underlying26] at hv
  obtain ⟨cs, rfl, _, _⟩ := hv
  obtain ⟨vn, vw, vf, vl, y, e, hW, hr, hbk⟩ := op_waveB hf
  refine ⟨vn, vw, vf, vl, y, ?_, hW, hr, hbk⟩
  have e' : cs.toList = (#[vn, vw, vf, vl] : Array Value).toList := e
  rw [Array.toList_inj.1 e']
end Go.Proofs.YtfcongggmjijfaaDoor
