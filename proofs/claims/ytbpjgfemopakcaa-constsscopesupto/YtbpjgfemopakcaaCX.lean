/- Names with numbers, handed in: opened. -/
import Derived.Test.YtbpjgfemopakcaaRows
import Derived.Test.YtbpjgfemopakcaaCW
import Derived.ProofKit
import Derived.OpenShut
import Derived.ShutString
import Derived.ChangeOld
import Derived.Below
import Derived.JoinedCond
import Derived.Deep.DeepHandedRow
import Derived.HandedShaped
import Derived.Deep.SlicePairs
import Derived.Carry
namespace Go.Proofs.Ytbpjgfemopakcaa
open Go.ChangeShapes Go.WideShapes Go.ChangeAt Go.RowKit Lg
set_option linter.unusedVariables false

def sOf (v : Value) : ByteArray := match v with | .string s => s | _ => ⟨#[]⟩
def kOf (v : Value) : Int := match v with | .int _ k => k | _ => 0
theorem bulk1 {H : Type} (d : DataW H) : 1 ≤ Rows.uptoBulk d := by
  cases d with
  | lit l => cases l <;> simp [Rows.uptoBulk]
  | nil => simp [Rows.uptoBulk]
  | ptr d => simp [Rows.uptoBulk]
  | slice elems spare => simp [Rows.uptoBulk]
  | agg parts => simp [Rows.uptoBulk]
  | iface t d => simp [Rows.uptoBulk]
  | map entries => simp [Rows.uptoBulk]
  | held h => simp [Rows.uptoBulk]
theorem bulk3 {H : Type} (D0 D1 : Nat → DataW H) : ∀ (r : List Nat), r.length * 3 ≤ Rows.uptoBulkAll (r.map fun i => DataW.agg [D0 i, D1 i])
  | [] => by simp
  | i :: r => by
    have ih := bulk3 D0 D1 r
    have h0 := bulk1 (D0 i)
    have h1 := bulk1 (D1 i)
    simp only [List.map_cons, Rows.uptoBulkAll, Rows.uptoBulk, List.length_cons]
    omega
theorem cellsNm : Try.prog.cellsOf 35 = 2 := by kernel_rfl
theorem cellsStr : Try.prog.cellsOf 9 = 1 := by kernel_rfl
theorem cellsInt : Try.prog.cellsOf 3 = 1 := by kernel_rfl
theorem cell_lt {w : World} {a : Addr} {v : Value} (h : w.cell? a = some v) : a.block < w.heap.size := by
  rcases Nat.lt_or_ge a.block w.heap.size with e | e
  · exact e
  · simp [World.cell?, Array.getElem?_eq_none e] at h
theorem open_names {H : Type} {enc : TypeId × Value → H} {W : World} {ao : Option Addr} {len cap : Nat} {d : DataW H} {p : List MemPlace} (h : DataW.Trod enc Try.prog W 0 (fun _ => true) true 22 (.slice ao len cap) d p) :
    ∃ l : List (ByteArray × Int), LsAt (.slice ao len cap) l W ∧ (∀ q ∈ l, q.1.size ≤ maxLen) ∧ l.length * 3 + 1 ≤ Rows.uptoBulk d := by
  obtain ⟨fuel, hf⟩ := h
  rcases Go.Deep.open_slice_pairs Try.underlying22 Try.underlying35 cellsNm rfl rfl cellsStr cellsInt hf with ⟨hcs, hx⟩ | ⟨a, len', cap', m, n, V0, V1, D0, D1, P0, P1, hcs, _, hl, hm, hmm, hx, hcell⟩
  · simp [Value.cells] at hcs
    obtain ⟨rfl, rfl, rfl⟩ := hcs
    refine ⟨[], Or.inl ⟨rfl, _, _, rfl⟩, fun q hq => (by cases hq), ?_⟩
    have := bulk1 d
    show 0 * 3 + 1 ≤ _
    omega
  · simp [Value.cells] at hcs
    obtain ⟨rfl, rfl, rfl⟩ := hcs
    simp only [Prod.mk.injEq] at hx
    obtain ⟨rfl, _⟩ := hx
    have hlm : len ≤ m := by rw [hmm]; split <;> omega
    have hv : ∀ i, i < len → V0 i = .string (sOf (V0 i)) ∧ (sOf (V0 i)).size ≤ maxLen ∧ V1 i = .int .i64 (kOf (V1 i)) := by
      intro i hi
      obtain ⟨_, _, t0, t1⟩ := hcell i (by omega)
      obtain ⟨s0, e0, _, z0⟩ := DataW.trod_string Try.underlying9 t0
      obtain ⟨k0, e1, _, _⟩ := DataW.trod_int Try.underlying3 t1
      simp only [List.cons.injEq, and_true] at e0 e1
      rw [e0, e1]
      exact ⟨rfl, z0, rfl⟩
    refine ⟨(List.range len).map fun i => (sOf (V0 i), kOf (V1 i)), ?_, ?_, ?_⟩
    · by_cases h0 : len = 0
      · subst h0
        exact Or.inl ⟨rfl, _, _, rfl⟩
      · have c0 := (hcell 0 (by omega)).1
        have hsp := World.cell?_spot c0
        have hbl := cell_lt c0
        obtain ⟨b, off, spot⟩ := a
        have hspot : spot = none := by simpa [Addr.add] using hsp
        subst hspot
        refine Or.inr ⟨b, off, cap, by simp, by simpa [Addr.add] using hbl, by simpa using hl, fun i hi => ?_⟩
        have hi' : i < len := by simpa using hi
        obtain ⟨q0, q1, _, _⟩ := hcell i (by omega)
        obtain ⟨r0, _, r1⟩ := hv i hi'
        have ea : ∀ j, ((⟨b, off, none⟩ : Addr).add j) = ⟨b, off + j, none⟩ := fun j => by simp [Addr.add]
        rw [ea] at q0 q1
        rw [r0] at q0
        rw [r1] at q1
        simp only [List.getElem_map, List.getElem_range]
        exact ⟨q0, by rw [Nat.add_assoc]; exact q1⟩
    · intro q hq
      obtain ⟨i, hi, rfl⟩ := List.mem_map.1 hq
      exact (hv i (List.mem_range.1 hi)).2.1
    · have h3 := bulk3 D0 D1 (List.range len)
      simp only [List.length_map, List.length_range] at h3 ⊢
      simp only [Rows.uptoBulk]
      omega
end Go.Proofs.Ytbpjgfemopakcaa
