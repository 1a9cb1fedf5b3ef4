/- What is handed in to layer 14's laws, opened: an event, rows of numbers, rows of calls. -/
import Derived.Test.YtokepgnnepjiaaaGreatRows
import Derived.Test.YtokepgnnepjiaaaGreatGEa
import Derived.ProofKit
import Derived.OpenShut
import Derived.ShutString
import Derived.ChangeOld
import Derived.Below
import Derived.JoinedCond
import Derived.Deep.DeepHandedRow
import Derived.HandedShaped
import Derived.Deep.SlicePairs
import Derived.Deep.Strs
import Derived.Carry
namespace Go.Proofs.YtokepgnnepjiaaaGreat.Q
set_option maxRecDepth 100000
open Go.ChangeShapes Go.WideShapes Go.ChangeAt Go.RowKit Qu
set_option linter.unusedVariables false
set_option maxRecDepth 100000

/-- a row of numbers -/
def IntsAt (w : World) (v : Value) (l : List Int) : Prop :=
  ∃ ao cap, v = .slice ao l.length cap ∧ l.length ≤ cap ∧ (l = [] ∨ ∃ g o, ao = some ⟨g, o, none⟩ ∧ g < w.heap.size ∧ ∀ i (h : i < l.length), w.cell? ⟨g, o + i, none⟩ = some (.int .i64 l[i]))
/-- a call of a script: its seven cells -/
def opC (k : Int) (e : Ev) : List Value := .int .i64 k :: evC e
def OpsAt (w : World) (v : Value) (l : List (Int × Ev)) : Prop :=
  ∃ ao cap, v = .slice ao l.length cap ∧ l.length ≤ cap ∧ (l = [] ∨ ∃ g o, ao = some ⟨g, o, none⟩ ∧ g < w.heap.size ∧ ∀ i (h : i < l.length) j u, (opC l[i].1 l[i].2)[j]? = some u → w.cell? ⟨g, o + i * 7 + j, none⟩ = some u)
theorem addO' (b o j : Nat) : ((⟨b, o, none⟩ : Addr).add j) = ⟨b, o + j, none⟩ := by
  simp only [Addr.add]; split <;> simp_all
theorem IntsAt.below {w w' : World} {v : Value} {l : List Int} (h : IntsAt w v l) (hb : Below w.heap.size w w') : IntsAt w' v l := by
  obtain ⟨ao, cap, rfl, hc, h⟩ := h
  refine ⟨ao, cap, rfl, hc, ?_⟩
  rcases h with h | ⟨g, o, rfl, hg, h⟩
  · exact Or.inl h
  · exact Or.inr ⟨g, o, rfl, Nat.lt_of_lt_of_le hg hb.size, fun i hi => by rw [hb.cell (p := ⟨g, o + i, none⟩) hg]; exact h i hi⟩
theorem OpsAt.below {w w' : World} {v : Value} {l : List (Int × Ev)} (h : OpsAt w v l) (hb : Below w.heap.size w w') : OpsAt w' v l := by
  obtain ⟨ao, cap, rfl, hc, h⟩ := h
  refine ⟨ao, cap, rfl, hc, ?_⟩
  rcases h with h | ⟨g, o, rfl, hg, h⟩
  · exact Or.inl h
  · exact Or.inr ⟨g, o, rfl, Nat.lt_of_lt_of_le hg hb.size, fun i hi j u hu => by rw [hb.cell (p := ⟨g, o + i * 7 + j, none⟩) hg]; exact h i hi j u hu⟩
theorem cellsI : Tryz.prog.cellsOf 3 = 1 := by kernel_rfl
theorem cellsS : Tryz.prog.cellsOf 9 = 1 := by kernel_rfl
theorem cellsB : Tryz.prog.cellsOf 4 = 1 := by kernel_rfl
theorem cellsEv : Tryz.prog.cellsOf 39 = 6 := by kernel_rfl
theorem cellLt {w : World} {a : Addr} {v : Value} (h : w.cell? a = some v) : a.block < w.heap.size := World.block_lt_of_cell? w a h
def iOf (v : Value) : Int := match v with | .int _ k => k | _ => 0
section
variable {H : Type} {enc : TypeId × Value → H} {W : World} {spare : Nat → Bool} {held : Bool} {fuel : Nat} {cs : List Value} {x : DataW H × List MemPlace}
theorem op_ints (h : DataW.trod enc Tryz.prog W 0 spare held fuel 24 cs = some x) : ∃ v zs, cs = [v] ∧ IntsAt W v zs := by
  rcases Go.Deep.open_slice1 Tryz.underlying24 cellsI h with ⟨rfl, rfl⟩ | ⟨a, len, cap, m, n, V, D, Pl, rfl, _, hl, hm, hmm, rfl, hx⟩
  · exact ⟨_, [], rfl, ⟨none, 0, rfl, Nat.le_refl _, Or.inl rfl⟩⟩
  · have hlm : len ≤ m := by rw [hmm]; split <;> omega
    have hv : ∀ i, i < len → V i = .int .i64 (iOf (V i)) := fun i hi => by
      obtain ⟨_, t1⟩ := hx i (by omega)
      obtain ⟨k0, e1, _, _⟩ := DataW.trod_int Tryz.underlying3 t1
      simp only [List.cons.injEq, and_true] at e1
      rw [e1]; rfl
    refine ⟨_, (List.range len).map fun i => iOf (V i), rfl, ⟨some a, cap, by simp, by simpa using hl, ?_⟩⟩
    by_cases h0 : len = 0
    · exact Or.inl (by simp [h0])
    · have c0 := (hx 0 (by omega)).1
      have hsp := World.cell?_spot c0
      have hbl := cellLt c0
      obtain ⟨b, off, spot⟩ := a
      have hspot : spot = none := by simpa [Addr.add] using hsp
      subst hspot
      refine Or.inr ⟨b, off, rfl, by simpa [Addr.add] using hbl, fun i hi => ?_⟩
      have hi' : i < len := by simpa using hi
      have c := (hx i (by omega)).1
      rw [addO', hv i hi'] at c
      simp only [List.getElem_map, List.getElem_range]
      exact c
theorem op_event (h : DataW.trod enc Tryz.prog W 0 spare held fuel 39 cs = some x) : ∃ y : Ev, cs = evC y := by
  obtain ⟨xs, n, rfl, rfl, hl, hxl, hf⟩ := DataW.trod_struct Tryz.underlying39 h
  rw [cellsEv] at hl
  match cs, hl with
  | [c0, c1, c2, c3, c4, c5], _ =>
    match xs, hxl with
    | [x0, x1, x2, x3, x4, x5], _ =>
      have g0 : DataW.trod enc Tryz.prog W 0 spare held n 3 [c0] = some x0 := by simpa [cellsI, cellsS, cellsB] using hf 0 _ rfl
      have g1 : DataW.trod enc Tryz.prog W 0 spare held n 3 [c1] = some x1 := by simpa [cellsI, cellsS, cellsB] using hf 1 _ rfl
      have g2 : DataW.trod enc Tryz.prog W 0 spare held n 9 [c2] = some x2 := by simpa [cellsI, cellsS, cellsB] using hf 2 _ rfl
      have g3 : DataW.trod enc Tryz.prog W 0 spare held n 3 [c3] = some x3 := by simpa [cellsI, cellsS, cellsB] using hf 3 _ rfl
      have g4 : DataW.trod enc Tryz.prog W 0 spare held n 3 [c4] = some x4 := by simpa [cellsI, cellsS, cellsB] using hf 4 _ rfl
      have g5 : DataW.trod enc Tryz.prog W 0 spare held n 4 [c5] = some x5 := by simpa [cellsI, cellsS, cellsB] using hf 5 _ rfl
      obtain ⟨z0, e0, _, _⟩ := DataW.trod_int Tryz.underlying3 g0
      obtain ⟨z1, e1, _, _⟩ := DataW.trod_int Tryz.underlying3 g1
      obtain ⟨z2, e2, _, _⟩ := DataW.trod_string Tryz.underlying9 g2
      obtain ⟨z3, e3, _, _⟩ := DataW.trod_int Tryz.underlying3 g3
      obtain ⟨z4, e4, _, _⟩ := DataW.trod_int Tryz.underlying3 g4
      obtain ⟨z5, e5, _, _⟩ := DataW.trod_bool Tryz.underlying4 g5
      simp only [List.cons.injEq, and_true] at e0 e1 e2 e3 e4 e5
      subst e0 e1 e2 e3 e4 e5
      exact ⟨⟨z0, z1, z2, z3, z4, z5⟩, rfl⟩
theorem op_last : True := trivial
end
theorem open_ints {H : Type} {enc : TypeId × Value → H} {W : World} {v : Value} {d : DataW H} {p : List MemPlace} {base : Nat} (hv : Value.okWide Tryz.prog W .any base 24 v) (h : DataW.Trod enc Tryz.prog W 0 (fun _ => true) true 24 v d p) : ∃ zs, IntsAt W v zs := by
  obtain ⟨a, n, c, rfl⟩ := okWide_slice Tryz.underlying24 hv
  obtain ⟨fuel, hf⟩ := h
  obtain ⟨v', zs, e, hI⟩ := op_ints hf
  have e' : Value.slice a n c = v' := by simpa [Value.cells] using e
  subst e'
  exact ⟨zs, hI⟩
theorem open_event {H : Type} {enc : TypeId × Value → H} {W : World} {base : Nat} {v : Value} {d : DataW H} {p : List MemPlace} (hv : Value.okWide Tryz.prog W .any base 39 v) (h : DataW.Trod enc Tryz.prog W 0 (fun _ => true) true 39 v d p) : ∃ y : Ev, v = .agg #[.int .i64 y.t, .int .i64 y.nd, .string y.v, .int .i64 y.fr, .int .i64 y.sq, .bool y.an] := by
  obtain ⟨fuel, hf⟩ := h
  simp only [Value.okWide, Tryz.underlying39] at hv
  obtain ⟨cs, rfl, _, _⟩ := hv
  obtain ⟨y, e⟩ := op_event hf
  refine ⟨y, ?_⟩
  have e' : cs.toList = (#[.int .i64 y.t, .int .i64 y.nd, .string y.v, .int .i64 y.fr, .int .i64 y.sq, .bool y.an] : Array Value).toList := e
  rw [Array.toList_inj.1 e']
end Go.Proofs.YtokepgnnepjiaaaGreat.Q
