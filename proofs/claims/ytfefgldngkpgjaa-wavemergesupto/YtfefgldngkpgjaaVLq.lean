/- Layer 18: rows of changes that are handed in, opened; how much they hold. -/
import Derived.Test.YtfefgldngkpgjaaRows
import Derived.Test.YtfefgldngkpgjaaVO
import Derived.Test.YtfefgldngkpgjaaVW
import Derived.JoinedCond
import Derived.Deep.DeepHandedRow
import Derived.Carry
namespace Go.Proofs.Ytfefgldngkpgjaa
set_option maxRecDepth 100000
open Go.ChangeShapes Go.WideShapes Go.ChangeAt Go.RowKit Lg Nl Go.Maps Wf
set_option linter.unusedVariables false
set_option linter.unusedSimpArgs false

theorem bulk1 {H : Type} (d : DataW H) : 1 ≤ Rows.uptoBulk d := by
  cases d with
  | lit l => cases l <;> simp [Rows.uptoBulk]
  | nil => simp [Rows.uptoBulk]
  | ptr d => simp [Rows.uptoBulk]
  | slice elems spare => simp [Rows.uptoBulk]
  | agg parts => simp [Rows.uptoBulk]
  | iface t d => simp [Rows.uptoBulk]
  | map entries => simp [Rows.uptoBulk]
  | held h => simp [Rows.uptoBulk]
theorem bulkAll {H : Type} (D : Nat → DataW H) : ∀ (r : List Nat), r.length ≤ Rows.uptoBulkAll (r.map D)
  | [] => by simp
  | i :: r => by
    have ih := bulkAll D r
    have h0 := bulk1 (D i)
    simp only [List.map_cons, Rows.uptoBulkAll, List.length_cons]
    omega
theorem bulkSum {H : Type} (D : Nat → DataW H) (F : Nat → List Ch) : ∀ (r : List Nat), (∀ i ∈ r, (F i).length + 1 ≤ Rows.uptoBulk (D i)) → (r.map F).flatten.length + r.length ≤ Rows.uptoBulkAll (r.map D)
  | [], _ => by simp
  | i :: r, h => by
    have ih := bulkSum D F r fun j hj => h j (List.mem_cons_of_mem _ hj)
    have h0 := h i (List.mem_cons_self ..)
    simp only [List.map_cons, List.flatten_cons, List.length_append, Rows.uptoBulkAll, List.length_cons]
    omega
theorem vbSc : Try.prog.bytesOf 24 = 24 := by kernel_rfl
section
variable {H : Type} {enc : TypeId × Value → H} {W : World} {spare : Nat → Bool} {held : Bool} {fuel : Nat} {cs : List Value} {x : DataW H × List MemPlace}
theorem op_changesB (h : DataW.trod enc Try.prog W 0 spare held fuel 24 cs = some x) : ∃ v l, cs = [v] ∧ ChAt W v l ∧ (RchV 24 x.1 → l.length * 32 ≤ reachBytes ∧ ∀ y ∈ l, y.v.size ≤ reachBytes) ∧ l.length + 1 ≤ Rows.uptoBulk x.1 := by
  rcases Go.Deep.open_slice Try.underlying24 h with ⟨rfl, rfl⟩ | ⟨a, len, cap, m, n, D, Pl, rfl, _, hl, hm, hmm, rfl, hx⟩
  · exact ⟨_, [], rfl, ⟨none, 0, rfl, ⟨Nat.le_refl _, fun _ => rfl⟩, Or.inl rfl⟩, fun _ => ⟨by decide, fun y hy => by cases hy⟩, by simp [Rows.uptoBulk]⟩
  · have hlm : len ≤ m := by rw [hmm]; split <;> omega
    rw [vcC] at hx
    have hv : ∀ i, i < len → ∃ y : Ch, (∀ j u, (chC y)[j]? = some u → W.cell? (a.add (i * 3 + j)) = some u) ∧ (RchV 46 (D i) → y.v.size ≤ reachBytes) := fun i hi => by
      obtain ⟨cs', h1, h2⟩ := hx i (by omega)
      obtain ⟨y, rfl, hr⟩ := op_change h2
      refine ⟨y, fun j u hu => ?_, hr⟩
      have hj : j < 3 := (List.getElem?_eq_some_iff.1 hu).1
      have := (World.cells?_some h1).2.2 j hj
      rw [Go.Deep.add_add] at this
      rw [this]; exact hu
    have inh : Inhabited Ch := ⟨ch0⟩
    obtain ⟨F, hF⟩ := Go.Deep.choose_lt (α := Ch) (fun i hi => hv i hi)
    refine ⟨_, (List.range len).map fun i => F i, rfl, ⟨some a, cap, by simp, ⟨by simpa using hl, fun e => by cases e⟩, ?_⟩, fun hr => ?_, ?_⟩
    · by_cases h0 : len = 0
      · exact Or.inl (by simp [h0])
      · have c0 := (hF 0 (by omega)).1 0 _ rfl
        have hsp := World.cell?_spot c0
        have hbl := cellLtV c0
        obtain ⟨b, off, spot⟩ := a
        have hspot : spot = none := by simpa [Addr.add] using hsp
        subst hspot
        refine Or.inr ⟨b, off, rfl, by simpa [Addr.add] using hbl, fun i hi j u hu => ?_⟩
        have hi' : i < len := by simpa using hi
        simp only [List.getElem_map, List.getElem_range] at hu
        have c := (hF i hi').1 j u hu
        rw [addOv] at c
        rw [Nat.add_assoc]; exact c
    · unfold RchV DataW.weights at hr
      rw [Try.underlying24] at hr
      simp only [List.all_cons, Bool.and_eq_true, decide_eq_true_eq, List.length_map, List.length_range, vbC, List.all_append, List.all_eq_true] at hr
      refine ⟨by rw [List.length_map, List.length_range]; have := hr.1; omega, fun y hy => ?_⟩
      obtain ⟨i, hi, rfl⟩ := List.mem_map.1 hy
      exact (hF i (List.mem_range.1 hi)).2 (wAllV hr.2.1 i hi)
    · have := bulkAll D (List.range len)
      simp only [List.length_map, List.length_range, Rows.uptoBulk] at this ⊢
      omega
theorem op_parts (h : DataW.trod enc Try.prog W 0 spare held fuel 41 cs = some x) : ∃ v ps, cs = [v] ∧ PsAt W v ps ∧ (RchV 41 x.1 → ∀ p ∈ ps, ∀ y ∈ p, y.v.size ≤ reachBytes) ∧ ps.flatten.length + ps.length + 1 ≤ Rows.uptoBulk x.1 := by
  rcases Go.Deep.open_slice Try.underlying41 h with ⟨rfl, rfl⟩ | ⟨a, len, cap, m, n, D, Pl, rfl, _, hl, hm, hmm, rfl, hx⟩
  · exact ⟨_, [], rfl, ⟨none, 0, rfl, Nat.le_refl _, Or.inl rfl⟩, fun _ p hp => (by cases hp), by simp [Rows.uptoBulk]⟩
  · have hlm : len ≤ m := by rw [hmm]; split <;> omega
    rw [vcSc] at hx
    have hv : ∀ i, i < len → ∃ l : List Ch, (∃ u, W.cell? (a.add (i * 1)) = some u ∧ ChAt W u l) ∧ (RchV 24 (D i) → ∀ y ∈ l, y.v.size ≤ reachBytes) ∧ l.length + 1 ≤ Rows.uptoBulk (D i) := fun i hi => by
      obtain ⟨cs', h1, h2⟩ := hx i (by omega)
      obtain ⟨u, l, rfl, hc, hr, hb⟩ := op_changesB h2
      refine ⟨l, ⟨u, ?_, hc⟩, fun h => (hr h).2, hb⟩
      have := (World.cells?_some h1).2.2 0 (by decide)
      rw [Go.Deep.add_add] at this
      simpa using this
    obtain ⟨F, hF⟩ := Go.Deep.choose_lt (α := List Ch) (fun i hi => hv i hi)
    refine ⟨_, (List.range len).map F, rfl, ⟨some a, cap, by simp, by simpa using hl, ?_⟩, fun hr => ?_, ?_⟩
    · by_cases h0 : len = 0
      · exact Or.inl (by simp [h0])
      · obtain ⟨u0, c0, _⟩ := (hF 0 (by omega)).1
        have hsp := World.cell?_spot c0
        have hbl := cellLtV c0
        obtain ⟨b, off, spot⟩ := a
        have hspot : spot = none := by simpa [Addr.add] using hsp
        subst hspot
        refine Or.inr ⟨b, off, rfl, by simpa [Addr.add] using hbl, fun i hi => ?_⟩
        have hi' : i < len := by simpa using hi
        obtain ⟨u, c, hc⟩ := (hF i hi').1
        rw [addOv, Nat.mul_one] at c
        refine ⟨u, c, ?_⟩
        simp only [List.getElem_map, List.getElem_range]
        exact hc
    · unfold RchV DataW.weights at hr
      rw [Try.underlying41] at hr
      simp only [List.all_cons, Bool.and_eq_true, decide_eq_true_eq, List.length_map, List.length_range, vbSc, List.all_append, List.all_eq_true] at hr
      intro p hp
      obtain ⟨i, hi, rfl⟩ := List.mem_map.1 hp
      exact (hF i (List.mem_range.1 hi)).2.1 (wAllV hr.2.1 i hi)
    · have := bulkSum D F (List.range len) fun i hi => (hF i (List.mem_range.1 hi)).2.2
      simp only [List.length_map, List.length_range, Rows.uptoBulk] at this ⊢
      omega
end
theorem open_parts {H : Type} {enc : TypeId × Value → H} {W : World} {base : Nat} {v : Value} {d : DataW H} {p : List MemPlace} (hv : Value.okWide Try.prog W .any base 41 v) (h : DataW.Trod enc Try.prog W 0 (fun _ => true) true 41 v d p) :
    ∃ ps, PsAt W v ps ∧ (RchV 41 d → ∀ q ∈ ps, ∀ y ∈ q, y.v.size ≤ reachBytes) ∧ ps.flatten.length + ps.length + 1 ≤ Rows.uptoBulk d := by
  obtain ⟨fuel, hf⟩ := h
  obtain ⟨a, n, c, rfl⟩ := okWide_slice Try.underlying41 hv
  obtain ⟨u, ps, e, hP, hr, hb⟩ := op_parts hf
  simp [Value.cells] at e
  subst e
  exact ⟨ps, hP, hr, hb⟩
end Go.Proofs.Ytfefgldngkpgjaa
