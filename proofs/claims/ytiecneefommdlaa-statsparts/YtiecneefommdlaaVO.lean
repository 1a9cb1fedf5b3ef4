/- Layer 18: a waveform that is handed in, opened. -/
import Derived.Test.YtiecneefommdlaaVE
import Derived.ProofKit
import Derived.OpenShut
import Derived.ShutString
import Derived.ChangeOld
import Derived.Below
import Derived.JoinedCond
import Derived.Deep.DeepHandedRow
import Derived.HandedShaped
import Derived.Deep.SlicePairs
import Derived.Deep.Strs
import Derived.Carry
namespace Go.Proofs.Ytiecneefommdlaa
set_option maxRecDepth 100000
open Go.ChangeShapes Go.WideShapes Go.ChangeAt Go.RowKit Lg Nl Wf
set_option linter.unusedVariables false
set_option maxRecDepth 100000

/-- no part of a datum is beyond the machine's reach -/
def RchV {H : Type} (t : TypeId) (d : DataW H) : Prop := (d.weights Try.prog t).all (· ≤ reachBytes) = true
theorem vbI : Try.prog.bytesOf 3 = 8 := by kernel_rfl
theorem vbS : Try.prog.bytesOf 9 = 16 := by kernel_rfl
theorem vbC : Try.prog.bytesOf 48 = 32 := by kernel_rfl
theorem vcI : Try.prog.cellsOf 3 = 1 := by kernel_rfl
theorem vcS : Try.prog.cellsOf 9 = 1 := by kernel_rfl
theorem vcSs : Try.prog.cellsOf 22 = 1 := by kernel_rfl
theorem vcSi : Try.prog.cellsOf 23 = 1 := by kernel_rfl
theorem vcSc : Try.prog.cellsOf 24 = 1 := by kernel_rfl
theorem vcC : Try.prog.cellsOf 48 = 3 := by kernel_rfl
theorem vcW : Try.prog.cellsOf 26 = 4 := by kernel_rfl
theorem cellLtV {w : World} {a : Addr} {v : Value} (h : w.cell? a = some v) : a.block < w.heap.size := by
  rcases Nat.lt_or_ge a.block w.heap.size with e | e
  · exact e
  · simp [World.cell?, Array.getElem?_eq_none e] at h
def iOfV (v : Value) : Int := match v with | .int _ k => k | _ => 0
def sOfV (v : Value) : ByteArray := match v with | .string s => s | _ => ⟨#[]⟩
section
variable {H : Type} {enc : TypeId × Value → H} {W : World} {spare : Nat → Bool} {held : Bool} {fuel : Nat} {cs : List Value} {x : DataW H × List MemPlace}
theorem wAllV {t : TypeId} {D : Nat → DataW H} : ∀ {r : List Nat}, (∀ y ∈ DataW.weightsAll Try.prog t (r.map D), y ≤ reachBytes) → ∀ i ∈ r, RchV t (D i)
  | [], _, i, hi => by cases hi
  | j :: r, h, i, hi => by
    simp only [List.map_cons, DataW.weightsAll, List.mem_append] at h
    rcases List.mem_cons.1 hi with rfl | hi
    · unfold RchV; rw [List.all_eq_true]; intro y hy; exact decide_eq_true (h y (Or.inl hy))
    · exact wAllV (fun y hy => h y (Or.inr hy)) i hi
theorem op_intsV (h : DataW.trod enc Try.prog W 0 spare held fuel 23 cs = some x) : ∃ v zs, cs = [v] ∧ IntsAt W v zs ∧ (RchV 23 x.1 → zs.length * 8 ≤ reachBytes) := by
  rcases Go.Deep.open_slice1 Try.underlying23 vcI h with ⟨rfl, rfl⟩ | ⟨a, len, cap, m, n, V, D, Pl, rfl, _, hl, hm, hmm, rfl, hx⟩
  · exact ⟨_, [], rfl, ⟨none, 0, rfl, Nat.le_refl _, Or.inl rfl⟩, fun _ => by decide⟩
  · have hlm : len ≤ m := by rw [hmm]; split <;> omega
    have hv : ∀ i, i < len → V i = .int .i64 (iOfV (V i)) := fun i hi => by
      obtain ⟨_, t1⟩ := hx i (by omega)
      obtain ⟨k0, e1, _, _⟩ := DataW.trod_int Try.underlying3 t1
      simp only [List.cons.injEq, and_true] at e1
      rw [e1]; rfl
    refine ⟨_, (List.range len).map fun i => iOfV (V i), rfl, ⟨some a, cap, by simp, by simpa using hl, ?_⟩, fun hr => ?_⟩
    · by_cases h0 : len = 0
      · exact Or.inl (by simp [h0])
      · have c0 := (hx 0 (by omega)).1
        have hsp := World.cell?_spot c0
        have hbl := cellLtV c0
        obtain ⟨b, off, spot⟩ := a
        have hspot : spot = none := by simpa [Addr.add] using hsp
        subst hspot
        refine Or.inr ⟨b, off, rfl, by simpa [Addr.add] using hbl, fun i hi => ?_⟩
        have hi' : i < len := by simpa using hi
        have c := (hx i (by omega)).1
        rw [addOv, hv i hi'] at c
        simp only [List.getElem_map, List.getElem_range]
        exact c
    · unfold RchV DataW.weights at hr
      rw [Try.underlying23] at hr
      simp only [List.all_cons, Bool.and_eq_true, decide_eq_true_eq, List.length_map, List.length_range, vbI] at hr ⊢
      have := hr.1
      omega
theorem op_strs (h : DataW.trod enc Try.prog W 0 spare held fuel 22 cs = some x) : ∃ v l, cs = [v] ∧ StrAt W v l ∧ (RchV 22 x.1 → l.length * 16 ≤ reachBytes ∧ ∀ s ∈ l, s.size ≤ reachBytes) := by
  rcases Go.Deep.open_slice1 Try.underlying22 vcS h with ⟨rfl, rfl⟩ | ⟨a, len, cap, m, n, V, D, Pl, rfl, _, hl, hm, hmm, rfl, hx⟩
  · exact ⟨_, [], rfl, ⟨none, 0, rfl, ⟨Nat.le_refl _, fun _ => rfl⟩, Or.inl rfl⟩, fun _ => ⟨by decide, fun y hy => by cases hy⟩⟩
  · have hlm : len ≤ m := by rw [hmm]; split <;> omega
    have hv : ∀ i, i < len → V i = .string (sOfV (V i)) ∧ (RchV 9 (D i) → (sOfV (V i)).size ≤ reachBytes) := fun i hi => by
      obtain ⟨_, t1⟩ := hx i (by omega)
      obtain ⟨sv, e1, y1, _⟩ := DataW.trod_string Try.underlying9 t1
      simp only [List.cons.injEq, and_true] at e1
      rw [e1]
      refine ⟨rfl, fun hr => ?_⟩
      unfold RchV at hr
      rw [show D i = _ from congrArg Prod.fst y1] at hr
      simp [DataW.weights] at hr
      exact hr
    refine ⟨_, (List.range len).map fun i => sOfV (V i), rfl, ⟨some a, cap, by simp, ⟨by simpa using hl, fun e => by cases e⟩, ?_⟩, fun hr => ?_⟩
    · by_cases h0 : len = 0
      · exact Or.inl (by simp [h0])
      · have c0 := (hx 0 (by omega)).1
        have hsp := World.cell?_spot c0
        have hbl := cellLtV c0
        obtain ⟨b, off, spot⟩ := a
        have hspot : spot = none := by simpa [Addr.add] using hsp
        subst hspot
        refine Or.inr ⟨b, off, rfl, by simpa [Addr.add] using hbl, fun i hi => ?_⟩
        have hi' : i < len := by simpa using hi
        have c := (hx i (by omega)).1
        rw [addOv, (hv i hi').1] at c
        simp only [List.getElem_map, List.getElem_range]
        exact c
    · unfold RchV DataW.weights at hr
      rw [Try.underlying22] at hr
      simp only [List.all_cons, Bool.and_eq_true, decide_eq_true_eq, List.length_map, List.length_range, vbS, List.all_append, List.all_eq_true] at hr
      refine ⟨by rw [List.length_map, List.length_range]; have := hr.1; omega, fun y hy => ?_⟩
      obtain ⟨i, hi, rfl⟩ := List.mem_map.1 hy
      exact (hv i (List.mem_range.1 hi)).2 (wAllV hr.2.1 i hi)
theorem op_change (h : DataW.trod enc Try.prog W 0 spare held fuel 48 cs = some x) : ∃ y : Ch, cs = chC y ∧ (RchV 48 x.1 → y.v.size ≤ reachBytes) := by
  obtain ⟨y0, y1, y2, n, rfl, hl, g0, g1, g2⟩ := Go.Deep.trod_struct3 Try.underlying48 h
  rw [vcC] at hl
  match cs, hl with
  | [c0, c1, c2], _ =>
    have k0 : DataW.trod enc Try.prog W 0 spare held n 3 [c0] = some y0 := by simpa [vcI] using g0
    have k1 : DataW.trod enc Try.prog W 0 spare held n 3 [c1] = some y1 := by simpa [vcI] using g1
    have k2 : DataW.trod enc Try.prog W 0 spare held n 9 [c2] = some y2 := by simpa [vcS] using g2
    obtain ⟨z0, e0, _, _⟩ := DataW.trod_int Try.underlying3 k0
    obtain ⟨z1, e1, _, _⟩ := DataW.trod_int Try.underlying3 k1
    obtain ⟨sv, e2, q2, _⟩ := DataW.trod_string Try.underlying9 k2
    simp only [List.cons.injEq, and_true] at e0 e1 e2
    subst e0 e1 e2
    refine ⟨⟨z0, z1, sv⟩, rfl, fun hr => ?_⟩
    unfold RchV at hr
    rw [DataW.weights.eq_def] at hr
    simp only [Try.underlying48, List.map_cons, List.map_nil] at hr
    rw [q2] at hr
    simp [DataW.weightsEach, DataW.weights] at hr
    exact hr.2.2
theorem op_changes (h : DataW.trod enc Try.prog W 0 spare held fuel 24 cs = some x) : ∃ v l, cs = [v] ∧ ChAt W v l ∧ (RchV 24 x.1 → l.length * 32 ≤ reachBytes ∧ ∀ y ∈ l, y.v.size ≤ reachBytes) := by
  rcases Go.Deep.open_slice Try.underlying24 h with ⟨rfl, rfl⟩ | ⟨a, len, cap, m, n, D, Pl, rfl, _, hl, hm, hmm, rfl, hx⟩
  · exact ⟨_, [], rfl, ⟨none, 0, rfl, ⟨Nat.le_refl _, fun _ => rfl⟩, Or.inl rfl⟩, fun _ => ⟨by decide, fun y hy => by cases hy⟩⟩
  · have hlm : len ≤ m := by rw [hmm]; split <;> omega
    rw [vcC] at hx
    have hv : ∀ i, i < len → ∃ y : Ch, (∀ j u, (chC y)[j]? = some u → W.cell? (a.add (i * 3 + j)) = some u) ∧ (RchV 48 (D i) → y.v.size ≤ reachBytes) := fun i hi => by
      obtain ⟨cs', h1, h2⟩ := hx i (by omega)
      obtain ⟨y, rfl, hr⟩ := op_change h2
      refine ⟨y, fun j u hu => ?_, hr⟩
      have hj : j < 3 := (List.getElem?_eq_some_iff.1 hu).1
      have := (World.cells?_some h1).2.2 j hj
      rw [Go.Deep.add_add] at this
      rw [this]; exact hu
    have inh : Inhabited Ch := ⟨ch0⟩
    obtain ⟨F, hF⟩ := Go.Deep.choose_lt (α := Ch) (fun i hi => hv i hi)
    refine ⟨_, (List.range len).map fun i => F i, rfl, ⟨some a, cap, by simp, ⟨by simpa using hl, fun e => by cases e⟩, ?_⟩, fun hr => ?_⟩
    · by_cases h0 : len = 0
      · exact Or.inl (by simp [h0])
      · have c0 := (hF 0 (by omega)).1 0 _ rfl
        have hsp := World.cell?_spot c0
        have hbl := cellLtV c0
        obtain ⟨b, off, spot⟩ := a
        have hspot : spot = none := by simpa [Addr.add] using hsp
        subst hspot
        refine Or.inr ⟨b, off, rfl, by simpa [Addr.add] using hbl, fun i hi j u hu => ?_⟩
        have hi' : i < len := by simpa using hi
        simp only [List.getElem_map, List.getElem_range] at hu
        have c := (hF i hi').1 j u hu
        rw [addOv] at c
        rw [Nat.add_assoc]; exact c
    · unfold RchV DataW.weights at hr
      rw [Try.underlying24] at hr
      simp only [List.all_cons, Bool.and_eq_true, decide_eq_true_eq, List.length_map, List.length_range, vbC, List.all_append, List.all_eq_true] at hr
      refine ⟨by rw [List.length_map, List.length_range]; have := hr.1; omega, fun y hy => ?_⟩
      obtain ⟨i, hi, rfl⟩ := List.mem_map.1 hy
      exact (hF i (List.mem_range.1 hi)).2 (wAllV hr.2.1 i hi)
theorem op_wave (h : DataW.trod enc Try.prog W 0 spare held fuel 26 cs = some x) : ∃ vn vw vf vl y, cs = [vn, vw, vf, vl] ∧ WvAt W vn vw vf vl y ∧ (RchV 26 x.1 → Sz y ∧ Bd y ∧ y.li.length ≤ 4398046511000) := by
  obtain ⟨xs, n, rfl, rfl, hl, hxl, hf⟩ := DataW.trod_struct Try.underlying26 h
  rw [vcW] at hl
  match cs, hl with
  | [c0, c1, c2, c3], _ =>
    match xs, hxl with
    | [x0, x1, x2, x3], _ =>
      have k0 : DataW.trod enc Try.prog W 0 spare held n 22 [c0] = some x0 := by simpa [vcSs, vcSi, vcSc] using hf 0 _ rfl
      have k1 : DataW.trod enc Try.prog W 0 spare held n 23 [c1] = some x1 := by simpa [vcSs, vcSi, vcSc] using hf 1 _ rfl
      have k2 : DataW.trod enc Try.prog W 0 spare held n 22 [c2] = some x2 := by simpa [vcSs, vcSi, vcSc] using hf 2 _ rfl
      have k3 : DataW.trod enc Try.prog W 0 spare held n 24 [c3] = some x3 := by simpa [vcSs, vcSi, vcSc] using hf 3 _ rfl
      obtain ⟨v0, l0, e0, h0, w0⟩ := op_strs k0
      obtain ⟨v1, l1, e1, h1, w1⟩ := op_intsV k1
      obtain ⟨v2, l2, e2, h2, w2⟩ := op_strs k2
      obtain ⟨v3, l3, e3, h3, w3⟩ := op_changes k3
      simp only [List.cons.injEq, and_true] at e0 e1 e2 e3
      subst e0 e1 e2 e3
      refine ⟨_, _, _, _, ⟨l0, l1, l2, l3⟩, rfl, ⟨h0, h1, h2, h3⟩, fun hr => ?_⟩
      unfold RchV at hr
      rw [DataW.weights.eq_def] at hr
      simp only [Try.underlying26, List.map_cons, List.map_nil] at hr
      simp [DataW.weightsEach] at hr
      have r0 := w0 (by unfold RchV; rw [List.all_eq_true]; intro y hy; exact decide_eq_true (hr.1 y hy))
      have r1 := w1 (by unfold RchV; rw [List.all_eq_true]; intro y hy; exact decide_eq_true (hr.2.1 y hy))
      have r2 := w2 (by unfold RchV; rw [List.all_eq_true]; intro y hy; exact decide_eq_true (hr.2.2.1 y hy))
      have r3 := w3 (by unfold RchV; rw [List.all_eq_true]; intro y hy; exact decide_eq_true (hr.2.2.2 y hy))
      have hR : reachBytes = 140737488351232 := rfl
      have hM : 140737488351232 ≤ maxLen := by unfold maxLen; decide
      rw [hR] at r0 r1 r2 r3
      exact ⟨⟨fun s hs => Nat.le_trans (r0.2 s hs) hM, fun s hs => Nat.le_trans (r2.2 s hs) hM, fun s hs => Nat.le_trans (r3.2 s hs) hM, by show l3.length ≤ _; omega⟩, ⟨by show l0.length ≤ _; omega, by show l1.length ≤ _; omega, by show l2.length ≤ _; omega, by show l3.length ≤ _; omega⟩, by show l3.length ≤ _; omega⟩
end
theorem open_wave {H : Type} {enc : TypeId × Value → H} {W : World} {base : Nat} {v : Value} {d : DataW H} {p : List MemPlace} (hv : Value.okWide Try.prog W .any base 26 v) (h : DataW.Trod enc Try.prog W 0 (fun _ => true) true 26 v d p) :
    ∃ vn vw vf vl y, v = .agg #[vn, vw, vf, vl] ∧ WvAt W vn vw vf vl y ∧ (RchV 26 d → Sz y ∧ Bd y ∧ y.li.length ≤ 4398046511000) := by
  obtain ⟨fuel, hf⟩ := h
  simp only [Value.okWide, Try.underlying26] at hv
  obtain ⟨cs, rfl, _, _⟩ := hv
  obtain ⟨vn, vw, vf, vl, y, e, hW, hr⟩ := op_wave hf
  refine ⟨vn, vw, vf, vl, y, ?_, hW, hr⟩
  have e' : cs.toList = (#[vn, vw, vf, vl] : Array Value).toList := e
  rw [Array.toList_inj.1 e']
end Go.Proofs.Ytiecneefommdlaa
