/- Netlists in memory; the reference's zero. -/
import Derived.Test.YtpdcmehjndhcjaaWM
import Derived.Test.YtpdcmehjndhcjaaKA
import Derived.Maps.AppendAt
import Derived.Deep.RegionLaw
import Derived.Deep.RegionHeld3
namespace Go.Proofs.Ytpdcmehjndhcjaa
open Go.RowKit Lg Nl
set_option linter.unusedVariables false
set_option linter.unusedSimpArgs false

/-- a row of numbers -/
def IntsAt (w : World) (v : Value) (l : List Int) : Prop :=
  ∃ ao cap, v = .slice ao l.length cap ∧ l.length ≤ cap ∧ (l = [] ∨ ∃ g o, ao = some ⟨g, o, none⟩ ∧ g < w.heap.size ∧ ∀ i (h : i < l.length), w.cell? ⟨g, o + i, none⟩ = some (.int .i64 l[i]))
/-- a node's eight cells, its Ins being vi -/
def ndC (x : Nd) (vi : Value) : List Value := [.int .i64 x.k, .int .i64 x.op, .int .i64 x.wd, vi, .string (S x.vl), .int .i64 x.hi, .int .i64 x.lo, .int .i64 x.tm]
/-- a row of nodes -/
def NdsAt (w : World) (v : Value) (l : List Nd) : Prop :=
  ∃ ao cap, v = .slice ao l.length cap ∧ l.length ≤ cap ∧ (l = [] ∨ ∃ g o, ao = some ⟨g, o, none⟩ ∧ g < w.heap.size ∧ ∀ i (h : i < l.length), ∃ vi, IntsAt w vi l[i].ins ∧ ∀ j u, (ndC l[i] vi)[j]? = some u → w.cell? ⟨g, o + i * 8 + j, none⟩ = some u)
theorem IntsAt.below {w w' : World} {v : Value} {l : List Int} (h : IntsAt w v l) (hb : Below w.heap.size w w') : IntsAt w' v l := by
  obtain ⟨ao, cap, rfl, hc, h⟩ := h
  refine ⟨ao, cap, rfl, hc, ?_⟩
  rcases h with h | ⟨g, o, rfl, hg, h⟩
  · exact Or.inl h
  · exact Or.inr ⟨g, o, rfl, Nat.lt_of_lt_of_le hg hb.size, fun i hi => by rw [hb.cell (p := ⟨g, o + i, none⟩) hg]; exact h i hi⟩
theorem NdsAt.below {w w' : World} {v : Value} {l : List Nd} (h : NdsAt w v l) (hb : Below w.heap.size w w') : NdsAt w' v l := by
  obtain ⟨ao, cap, rfl, hc, h⟩ := h
  refine ⟨ao, cap, rfl, hc, ?_⟩
  rcases h with h | ⟨g, o, rfl, hg, h⟩
  · exact Or.inl h
  · refine Or.inr ⟨g, o, rfl, Nat.lt_of_lt_of_le hg hb.size, fun i hi => ?_⟩
    obtain ⟨vi, h1, h2⟩ := h i hi
    exact ⟨vi, h1.below hb, fun j u hu => by rw [hb.cell (p := ⟨g, o + i * 8 + j, none⟩) hg]; exact h2 j u hu⟩
def ndG (x : Nd) (vi : Value) : Value := .agg (ndC x vi).toArray

theorem S_toList (l : List UInt8) : (S l).toList = l := by rw [toL, L_S]
set_option maxHeartbeats 1000000 in
theorem zero_c (x : Nd) (ao : Option Addr) (n cap : Nat) (w : World) : Calls Try.prog 19 #[.agg #[.int .i64 x.k, .int .i64 x.op, .int .i64 x.wd, .slice ao n cap, .string (S x.vl), .int .i64 x.hi, .int .i64 x.lo, .int .i64 x.tm]] w fun e w' => e = .returned (.bool (zeroB x)) ∧ Below w.heap.size w w' := by
  obtain ⟨k, op, wd, ins, vl, hi, lo, tm⟩ := x
  simp only
  go_enter Try.func19, Try.ntmps19
  go_wp2
  all_goals (go_ret; exact ⟨ret_bool (by rw [Bool.eq_iff_iff]; simp_all [zeroB, S_toList]), belA (Below.refl _ _) _⟩)
end Go.Proofs.Ytpdcmehjndhcjaa
