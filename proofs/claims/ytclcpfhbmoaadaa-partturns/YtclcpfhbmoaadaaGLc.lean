/- Texts KLl KLn, joined: what each part says stands ahead of it. -/
import Derived.Test.YtclcpfhbmoaadaaRows
import Derived.Test.YtclcpfhbmoaadaaGLb
import Derived.ProofKit
import Derived.OpenShut
import Derived.ShutString
import Derived.ChangeOld
import Derived.Below
import Derived.JoinedCond
import Derived.Deep.DeepHandedRow
import Derived.HandedShaped
import Derived.Deep.SlicePairs
import Derived.Deep.Strs
import Derived.Carry
import Derived.Test.YtclcpfhbmoaadaaGKh
/- A netlist that is handed in, opened. -/
namespace Go.Proofs.Ytclcpfhbmoaadaa
open Go.ChangeShapes Go.WideShapes Go.ChangeAt Go.RowKit Lg Nl
set_option linter.unusedVariables false
set_option maxRecDepth 100000

/-- no part of a datum is beyond the machine's reach -/
def Rch {H : Type} (t : TypeId) (d : DataW H) : Prop := (d.weights Try.prog t).all (· ≤ reachBytes) = true
theorem bytesInt : Try.prog.bytesOf 3 = 8 := by kernel_rfl
theorem bytesNd : Try.prog.bytesOf 47 = 88 := by kernel_rfl
theorem cellsI : Try.prog.cellsOf 3 = 1 := by kernel_rfl
theorem cellsS : Try.prog.cellsOf 9 = 1 := by kernel_rfl
theorem cellsSl : Try.prog.cellsOf 24 = 1 := by kernel_rfl
theorem cellsSn : Try.prog.cellsOf 23 = 1 := by kernel_rfl
theorem cellsNd : Try.prog.cellsOf 47 = 8 := by kernel_rfl
theorem cellsNl : Try.prog.cellsOf 26 = 3 := by kernel_rfl
theorem cellLt {w : World} {a : Addr} {v : Value} (h : w.cell? a = some v) : a.block < w.heap.size := by
  rcases Nat.lt_or_ge a.block w.heap.size with e | e
  · exact e
  · simp [World.cell?, Array.getElem?_eq_none e] at h
def iOf (v : Value) : Int := match v with | .int _ k => k | _ => 0
section
variable {H : Type} {enc : TypeId × Value → H} {W : World} {spare : Nat → Bool} {held : Bool} {fuel : Nat} {cs : List Value} {x : DataW H × List MemPlace}
theorem op_ints (h : DataW.trod enc Try.prog W 0 spare held fuel 24 cs = some x) : ∃ v zs, cs = [v] ∧ IntsAt W v zs ∧ (Rch 24 x.1 → zs.length * 8 ≤ reachBytes) := by
  rcases Go.Deep.open_slice1 Try.underlying24 cellsI h with ⟨rfl, rfl⟩ | ⟨a, len, cap, m, n, V, D, Pl, rfl, _, hl, hm, hmm, rfl, hx⟩
  · exact ⟨_, [], rfl, ⟨none, 0, rfl, Nat.le_refl _, Or.inl rfl⟩, fun _ => by decide⟩
  · have hlm : len ≤ m := by rw [hmm]; split <;> omega
    have hv : ∀ i, i < len → V i = .int .i64 (iOf (V i)) := fun i hi => by
      obtain ⟨_, t1⟩ := hx i (by omega)
      obtain ⟨k0, e1, _, _⟩ := DataW.trod_int Try.underlying3 t1
      simp only [List.cons.injEq, and_true] at e1
      rw [e1]; rfl
    refine ⟨_, (List.range len).map fun i => iOf (V i), rfl, ⟨some a, cap, by simp, by simpa using hl, ?_⟩, fun hr => ?_⟩
    · by_cases h0 : len = 0
      · exact Or.inl (by simp [h0])
      · have c0 := (hx 0 (by omega)).1
        have hsp := World.cell?_spot c0
        have hbl := cellLt c0
        obtain ⟨b, off, spot⟩ := a
        have hspot : spot = none := by simpa [Addr.add] using hsp
        subst hspot
        refine Or.inr ⟨b, off, rfl, by simpa [Addr.add] using hbl, fun i hi => ?_⟩
        have hi' : i < len := by simpa using hi
        have c := (hx i (by omega)).1
        rw [addO, hv i hi'] at c
        simp only [List.getElem_map, List.getElem_range]
        exact c
    · unfold Rch DataW.weights at hr
      rw [Try.underlying24] at hr
      simp only [List.all_cons, Bool.and_eq_true, decide_eq_true_eq, List.length_map, List.length_range, bytesInt] at hr ⊢
      have := hr.1
      omega
theorem op_node (h : DataW.trod enc Try.prog W 0 spare held fuel 47 cs = some x) : ∃ (y : Nd) (vi : Value), cs = ndC y vi ∧ IntsAt W vi y.ins ∧ (Rch 47 x.1 → y.ins.length * 8 ≤ reachBytes ∧ y.vl.length ≤ reachBytes) := by
  obtain ⟨xs, n, rfl, rfl, hl, hxl, hf⟩ := DataW.trod_struct Try.underlying47 h
  rw [cellsNd] at hl
  match cs, hl with
  | [c0, c1, c2, c3, c4, c5, c6, c7], _ =>
    match xs, hxl with
    | [x0, x1, x2, x3, x4, x5, x6, x7], _ =>
      have g0 : DataW.trod enc Try.prog W 0 spare held n 3 [c0] = some x0 := by simpa [cellsI, cellsS, cellsSl] using hf 0 _ rfl
      have g1 : DataW.trod enc Try.prog W 0 spare held n 3 [c1] = some x1 := by simpa [cellsI, cellsS, cellsSl] using hf 1 _ rfl
      have g2 : DataW.trod enc Try.prog W 0 spare held n 3 [c2] = some x2 := by simpa [cellsI, cellsS, cellsSl] using hf 2 _ rfl
      have g3 : DataW.trod enc Try.prog W 0 spare held n 24 [c3] = some x3 := by simpa [cellsI, cellsS, cellsSl] using hf 3 _ rfl
      have g4 : DataW.trod enc Try.prog W 0 spare held n 9 [c4] = some x4 := by simpa [cellsI, cellsS, cellsSl] using hf 4 _ rfl
      have g5 : DataW.trod enc Try.prog W 0 spare held n 3 [c5] = some x5 := by simpa [cellsI, cellsS, cellsSl] using hf 5 _ rfl
      have g6 : DataW.trod enc Try.prog W 0 spare held n 3 [c6] = some x6 := by simpa [cellsI, cellsS, cellsSl] using hf 6 _ rfl
      have g7 : DataW.trod enc Try.prog W 0 spare held n 3 [c7] = some x7 := by simpa [cellsI, cellsS, cellsSl] using hf 7 _ rfl
      obtain ⟨z0, e0, _, _⟩ := DataW.trod_int Try.underlying3 g0
      obtain ⟨z1, e1, _, _⟩ := DataW.trod_int Try.underlying3 g1
      obtain ⟨z2, e2, _, _⟩ := DataW.trod_int Try.underlying3 g2
      obtain ⟨z5, e5, _, _⟩ := DataW.trod_int Try.underlying3 g5
      obtain ⟨z6, e6, _, _⟩ := DataW.trod_int Try.underlying3 g6
      obtain ⟨z7, e7, _, _⟩ := DataW.trod_int Try.underlying3 g7
      obtain ⟨vi, zs, e3, hI, hw3⟩ := op_ints g3
      obtain ⟨sv, e4, y4, _⟩ := DataW.trod_string Try.underlying9 g4
      simp only [List.cons.injEq, and_true] at e0 e1 e2 e3 e4 e5 e6 e7
      subst e0 e1 e2 e3 e4 e5 e6 e7
      refine ⟨⟨z0, z1, z2, zs, L sv, z5, z6, z7⟩, c3, by simp [ndC, S_L], hI, fun hr => ?_⟩
      unfold Rch at hr
      rw [DataW.weights.eq_def] at hr
      simp only [Try.underlying47, List.map_cons, List.map_nil] at hr
      rw [y4] at hr
      simp [DataW.weightsEach, DataW.weights] at hr
      exact ⟨hw3 (by unfold Rch; rw [List.all_eq_true]; intro y hy; exact decide_eq_true (hr.2.2.2.1 y hy)), by show sv.data.toList.length ≤ reachBytes; rw [Array.length_toList]; exact hr.2.2.2.2.1⟩
theorem wAll {t : TypeId} {D : Nat → DataW H} : ∀ {r : List Nat}, (∀ y ∈ DataW.weightsAll Try.prog t (r.map D), y ≤ reachBytes) → ∀ i ∈ r, Rch t (D i)
  | [], _, i, hi => by cases hi
  | j :: r, h, i, hi => by
    simp only [List.map_cons, DataW.weightsAll, List.mem_append] at h
    rcases List.mem_cons.1 hi with rfl | hi
    · unfold Rch; rw [List.all_eq_true]; intro y hy; exact decide_eq_true (h y (Or.inl hy))
    · exact wAll (fun y hy => h y (Or.inr hy)) i hi
theorem op_nodes (h : DataW.trod enc Try.prog W 0 spare held fuel 23 cs = some x) : ∃ v l, cs = [v] ∧ NdsAt W v l ∧ (Rch 23 x.1 → l.length * 88 ≤ reachBytes ∧ ∀ y ∈ l, y.ins.length * 8 ≤ reachBytes ∧ y.vl.length ≤ reachBytes) := by
  rcases Go.Deep.open_slice Try.underlying23 h with ⟨rfl, rfl⟩ | ⟨a, len, cap, m, n, D, Pl, rfl, _, hl, hm, hmm, rfl, hx⟩
  · exact ⟨_, [], rfl, ⟨none, 0, rfl, Nat.le_refl _, Or.inl rfl⟩, fun _ => ⟨by decide, fun y hy => by cases hy⟩⟩
  · have hlm : len ≤ m := by rw [hmm]; split <;> omega
    rw [cellsNd] at hx
    have hv : ∀ i, i < len → ∃ y : Nd × Value, IntsAt W y.2 y.1.ins ∧ (∀ j u, (ndC y.1 y.2)[j]? = some u → W.cell? (a.add (i * 8 + j)) = some u) ∧ (Rch 47 (D i) → y.1.ins.length * 8 ≤ reachBytes ∧ y.1.vl.length ≤ reachBytes) := fun i hi => by
      obtain ⟨cs', h1, h2⟩ := hx i (by omega)
      obtain ⟨y, vi, rfl, hI, hr⟩ := op_node h2
      refine ⟨(y, vi), hI, fun j u hu => ?_, hr⟩
      have hj : j < 8 := (List.getElem?_eq_some_iff.1 hu).1
      have := (World.cells?_some h1).2.2 j hj
      rw [Go.Deep.add_add] at this
      rw [this]; exact hu
    have inh : Inhabited (Nd × Value) := ⟨(nd0, .bool false)⟩
    obtain ⟨F, hF⟩ := Go.Deep.choose_lt (α := Nd × Value) (fun i hi => hv i hi)
    refine ⟨_, (List.range len).map fun i => (F i).1, rfl, ⟨some a, cap, by simp, by simpa using hl, ?_⟩, fun hr => ?_⟩
    · by_cases h0 : len = 0
      · exact Or.inl (by simp [h0])
      · have c0 := (hF 0 (by omega)).2.1 0 _ rfl
        have hsp := World.cell?_spot c0
        have hbl := cellLt c0
        obtain ⟨b, off, spot⟩ := a
        have hspot : spot = none := by simpa [Addr.add] using hsp
        subst hspot
        refine Or.inr ⟨b, off, rfl, by simpa [Addr.add] using hbl, fun i hi => ?_⟩
        have hi' : i < len := by simpa using hi
        obtain ⟨q1, q2, _⟩ := hF i hi'
        simp only [List.getElem_map, List.getElem_range]
        refine ⟨(F i).2, q1, fun j u hu => ?_⟩
        have c := q2 j u hu
        rw [addO] at c
        rw [Nat.add_assoc]; exact c
    · unfold Rch DataW.weights at hr
      rw [Try.underlying23] at hr
      simp only [List.all_cons, Bool.and_eq_true, decide_eq_true_eq, List.length_map, List.length_range, bytesNd, List.all_append, List.all_eq_true] at hr
      refine ⟨by rw [List.length_map, List.length_range]; have := hr.1; omega, fun y hy => ?_⟩
      obtain ⟨i, hi, rfl⟩ := List.mem_map.1 hy
      exact (hF i (List.mem_range.1 hi)).2.2 (wAll hr.2.1 i hi)
theorem op_netlist (h : DataW.trod enc Try.prog W 0 spare held fuel 26 cs = some x) : ∃ vN vT pt l nets, cs = [vN, vT, .int .i64 pt] ∧ NdsAt W vN l ∧ IntsAt W vT nets ∧ (Rch 26 x.1 → Fits l nets) := by
  obtain ⟨y0, y1, y2, n, rfl, hl, g0, g1, g2⟩ := Go.Deep.trod_struct3 Try.underlying26 h
  rw [cellsNl] at hl
  match cs, hl with
  | [c0, c1, c2], _ =>
    have k0 : DataW.trod enc Try.prog W 0 spare held n 23 [c0] = some y0 := by simpa [cellsSn] using g0
    have k1 : DataW.trod enc Try.prog W 0 spare held n 24 [c1] = some y1 := by simpa [cellsSl] using g1
    have k2 : DataW.trod enc Try.prog W 0 spare held n 3 [c2] = some y2 := by simpa [cellsI] using g2
    obtain ⟨vN, l, e0, hN, w0⟩ := op_nodes k0
    obtain ⟨vT, nets, e1, hT, w1⟩ := op_ints k1
    obtain ⟨pt, e2, _, _⟩ := DataW.trod_int Try.underlying3 k2
    simp only [List.cons.injEq, and_true] at e0 e1 e2
    subst e0 e1 e2
    refine ⟨_, _, pt, l, nets, rfl, hN, hT, fun hr => ?_⟩
    unfold Rch at hr
    rw [DataW.weights.eq_def] at hr
    simp only [Try.underlying26, List.map_cons, List.map_nil] at hr
    simp [DataW.weightsEach] at hr
    have r0 := w0 (by unfold Rch; rw [List.all_eq_true]; intro y hy; exact decide_eq_true (hr.1 y hy))
    have r1 := w1 (by unfold Rch; rw [List.all_eq_true]; intro y hy; exact decide_eq_true (hr.2.1 y hy))
    have hR : reachBytes = 140737488351232 := rfl
    rw [hR] at r0 r1
    exact ⟨by omega, by omega, fun y hy => by have := (r0.2 y hy).1; omega, fun y hy => by have := (r0.2 y hy).2; omega⟩
end
theorem open_net {H : Type} {enc : TypeId × Value → H} {W : World} {base : Nat} {v : Value} {d : DataW H} {p : List MemPlace} (hv : Value.okWide Try.prog W .any base 26 v) (h : DataW.Trod enc Try.prog W 0 (fun _ => true) true 26 v d p) :
    ∃ vN vT pt l nets, v = .agg #[vN, vT, .int .i64 pt] ∧ NdsAt W vN l ∧ IntsAt W vT nets ∧ (Rch 26 d → Fits l nets) := by
  obtain ⟨fuel, hf⟩ := h
  simp only [Value.okWide, Try.underlying26] at hv
  obtain ⟨cs, rfl, _, _⟩ := hv
  obtain ⟨vN, vT, pt, l, nets, e, hN, hT, hr⟩ := op_netlist hf
  refine ⟨vN, vT, pt, l, nets, ?_, hN, hT, hr⟩
  have e' : cs.toList = (#[vN, vT, Value.int .i64 pt] : Array Value).toList := e
  rw [Array.toList_inj.1 e']
end Go.Proofs.Ytclcpfhbmoaadaa

/- Gates that are handed in, opened. -/
namespace Go.Proofs.Ytclcpfhbmoaadaa
open Go.ChangeShapes Go.WideShapes Go.ChangeAt Go.RowKit Lg Nl
set_option linter.unusedVariables false
set_option maxRecDepth 100000

theorem cellsGt : Try.prog.cellsOf 54 = 5 := by kernel_rfl
theorem bytesGt : Try.prog.bytesOf 54 = 40 := by kernel_rfl
section
variable {H : Type} {enc : TypeId × Value → H} {W : World} {spare : Nat → Bool} {held : Bool} {fuel : Nat} {cs : List Value} {x : DataW H × List MemPlace}
theorem op_gate (h : DataW.trod enc Try.prog W 0 spare held fuel 54 cs = some x) : ∃ f : Nat → Int, ∀ q, q < 5 → cs[q]? = some (.int .i64 (f q)) := by
  obtain ⟨xs, n, rfl, rfl, hl, hxl, hf⟩ := DataW.trod_struct Try.underlying54 h
  rw [cellsGt] at hl
  match cs, hl with
  | [c0, c1, c2, c3, c4], _ =>
    match xs, hxl with
    | [x0, x1, x2, x3, x4], _ =>
      have g0 : DataW.trod enc Try.prog W 0 spare held n 3 [c0] = some x0 := by simpa [cellsI] using hf 0 _ rfl
      have g1 : DataW.trod enc Try.prog W 0 spare held n 3 [c1] = some x1 := by simpa [cellsI] using hf 1 _ rfl
      have g2 : DataW.trod enc Try.prog W 0 spare held n 3 [c2] = some x2 := by simpa [cellsI] using hf 2 _ rfl
      have g3 : DataW.trod enc Try.prog W 0 spare held n 3 [c3] = some x3 := by simpa [cellsI] using hf 3 _ rfl
      have g4 : DataW.trod enc Try.prog W 0 spare held n 3 [c4] = some x4 := by simpa [cellsI] using hf 4 _ rfl
      obtain ⟨z0, e0, _, _⟩ := DataW.trod_int Try.underlying3 g0
      obtain ⟨z1, e1, _, _⟩ := DataW.trod_int Try.underlying3 g1
      obtain ⟨z2, e2, _, _⟩ := DataW.trod_int Try.underlying3 g2
      obtain ⟨z3, e3, _, _⟩ := DataW.trod_int Try.underlying3 g3
      obtain ⟨z4, e4, _, _⟩ := DataW.trod_int Try.underlying3 g4
      simp only [List.cons.injEq, and_true] at e0 e1 e2 e3 e4
      subst e0 e1 e2 e3 e4
      refine ⟨fun q => [z0, z1, z2, z3, z4].getD q 0, fun q hq => ?_⟩
      match q, hq with
      | 0, _ => rfl
      | 1, _ => rfl
      | 2, _ => rfl
      | 3, _ => rfl
      | 4, _ => rfl
theorem op_gates (h : DataW.trod enc Try.prog W 0 spare held fuel 22 cs = some x) : ∃ v m F, cs = [v] ∧ GsAt W W.heap.size v m F ∧ (Rch 22 x.1 → m * 40 ≤ reachBytes) := by
  rcases Go.Deep.open_slice Try.underlying22 h with ⟨rfl, rfl⟩ | ⟨a, len, cap, m, n, D, Pl, rfl, _, hl, hm, hmm, rfl, hx⟩
  · exact ⟨_, 0, fun _ _ => 0, rfl, ⟨none, 0, rfl, Or.inl rfl⟩, fun _ => by decide⟩
  · have hlm : len ≤ m := by rw [hmm]; split <;> omega
    rw [cellsGt] at hx
    have hv : ∀ i, i < len → ∃ f : Nat → Int, ∀ q, q < 5 → W.cell? (a.add (i * 5 + q)) = some (.int .i64 (f q)) := fun i hi => by
      obtain ⟨cs', h1, h2⟩ := hx i (by omega)
      obtain ⟨f, hf⟩ := op_gate h2
      refine ⟨f, fun q hq => ?_⟩
      have := (World.cells?_some h1).2.2 q hq
      rw [Go.Deep.add_add] at this
      rw [this]; exact hf q hq
    obtain ⟨F, hF⟩ := Go.Deep.choose_lt (α := Nat → Int) (fun i hi => hv i hi)
    refine ⟨_, len, fun i => F i, rfl, ⟨some a, cap, rfl, ?_⟩, fun hr => ?_⟩
    · by_cases h0 : len = 0
      · exact Or.inl h0
      · have c0 := hF 0 (by omega) 0 (by omega)
        have hsp := World.cell?_spot c0
        have hbl := cellLt c0
        obtain ⟨b, off, spot⟩ := a
        have hspot : spot = none := by simpa [Addr.add] using hsp
        subst hspot
        refine Or.inr ⟨b, off, rfl, by simpa [Addr.add] using hbl, Nat.le_refl _, fun i q hi hq => ?_⟩
        have c := hF i hi q hq
        rw [addO] at c
        rw [Nat.add_assoc]; exact c
    · unfold Rch DataW.weights at hr
      rw [Try.underlying22] at hr
      simp only [List.all_cons, Bool.and_eq_true, decide_eq_true_eq, List.length_map, List.length_range, bytesGt] at hr
      have := hr.1
      omega
end
theorem open_gates {H : Type} {enc : TypeId × Value → H} {W : World} {base : Nat} {v : Value} {d : DataW H} {p : List MemPlace} (hv : Value.okWide Try.prog W .any base 22 v) (h : DataW.Trod enc Try.prog W 0 (fun _ => true) true 22 v d p) :
    ∃ m F, GsAt W W.heap.size v m F ∧ (Rch 22 d → m ≤ 17592186044416) := by
  obtain ⟨a, n, c, rfl⟩ := okWide_slice Try.underlying22 hv
  obtain ⟨fuel, hf⟩ := h
  obtain ⟨v', m, F, e, hG, hr⟩ := op_gates hf
  have e' : Value.slice a n c = v' := by simpa [Value.cells] using e
  subst e'
  have hR : reachBytes = 140737488351232 := rfl
  exact ⟨m, F, hG, fun h => by have := hr h; omega⟩
end Go.Proofs.Ytclcpfhbmoaadaa
