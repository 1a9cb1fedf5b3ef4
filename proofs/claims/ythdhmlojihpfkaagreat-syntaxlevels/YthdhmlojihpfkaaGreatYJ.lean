/- Layer 2, the reference: the token at a place: signs. -/
import Derived.Test.YthdhmlojihpfkaaGreatYF
namespace Go.Proofs.YthdhmlojihpfkaaGreat
open Go.RowKit Lg
set_option linter.unusedVariables false
set_option linter.unusedSimpArgs false

theorem heap3 (w : World) (a b c : Value) (t : TypeId) : (w.alloc (.cells #[a, b, c] t)).heap[w.heap.size]? = some (.cells #[a, b, c] t (0, 0)) := by show (w.heap.push _)[w.heap.size]? = _; simp
theorem cells3 {w : World} {b : Nat} {x0 x1 x2 : Value} {t : TypeId} (h : w.heap[b]? = some (.cells #[x0, x1, x2] t (0, 0))) : w.cell? ⟨b, 0, none⟩ = some x0 ∧ w.cell? ⟨b, 1, none⟩ = some x1 ∧ w.cell? ⟨b, 2, none⟩ = some x2 ∧ (∀ j, w.frozen? ⟨b, j, none⟩ = false) := by
  refine ⟨?_, ?_, ?_, fun j => Lib.frozen_of_heap h j⟩ <;> (rw [Lib.cell_of_heap h]; rfl)
def tokV (k : Int) (x : ByteArray) (p : Int) : Value := .agg #[.int .i64 k, .string x, .int .i64 p]
set_option maxRecDepth 100000 in
set_option maxHeartbeats 2000000 in
theorem one_sign (s : ByteArray) (p : Nat) (w : World) (hs : s.size ≤ 65536) (hp : p < s.size) (h1 : letB s[p] = false) (h2 : digB s[p] = false) (h3 : ¬ s[p] = 96) (x : ByteArray) (hx : S (sgS ((L s).drop p)) = x) (hx0 : x.toList.isEmpty = false) (hxs : x.size ≤ 2) :
    Calls Tryz.prog 25 #[.string s, .int .i64 p] w fun e w' => e = .returned (.tuple #[tokV 3 x p, .int .i64 ((p : Int) + (x.size : Int)), .int .i64 0]) ∧ Below w.heap.size w w' := by
  have HS := fun w => sign_c s p w hs hp
  rw [hx] at HS
  have h96 : (((s[p].toNat : Nat) : Int) == 96) = false := (cb s[p] 96).trans (by simpa using h3)
  have hpI : (p : Int) < (s.size : Int) := by omega
  clear hx h3
  go_enter Tryz.func25, Tryz.ntmps25
  go_wp2_with (first
    | (go_at_call 44; refine (rLetter_c s[p] _).mono ?_; rintro e w' ⟨rfl, hw⟩; have hw2 := hw.symm; subst hw2; rw [h1])
    | (go_at_call 46; refine (rdigit_c s[p] _).mono ?_; rintro e w' ⟨rfl, hw⟩; have hw2 := hw.symm; subst hw2; rw [h2])
    | (go_at_call 48; refine (HS _).mono ?_; rintro e w' ⟨rfl, hb⟩; obtain ⟨d0, d1, d2, df⟩ := cells3 ((hb.block w.heap.size (by simp)).trans (heap3 w _ _ _ _)); have f0 := df 0; have f1 := df 1; have f2 := df 2))
  refine bodyPost_ret (v := .tuple #[tokV 3 x p, .int .i64 ((p : Int) + (x.size : Int)), .int .i64 0]) (by simp [results, Tryz.results25, go_sem, tokV, d0, d1, d2]) rfl ⟨rfl, ?_⟩
  exact (((bel (belA (Below.refl _ _) _) hb).setCell (Nat.le_refl _) _).setCell (Nat.le_refl _) _).setCell (Nat.le_refl _) _
end Go.Proofs.YthdhmlojihpfkaaGreat
