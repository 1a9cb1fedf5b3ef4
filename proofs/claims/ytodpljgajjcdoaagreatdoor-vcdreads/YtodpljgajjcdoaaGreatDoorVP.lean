/- Layer 18: what the program's functions are to tell (each proved for the landed code elsewhere), and awake over it. -/
import Derived.Test.YtodpljgajjcdoaaGreatDoorVF
namespace Go.Proofs.YtodpljgajjcdoaaGreatDoor
set_option maxRecDepth 100000
open Go.RowKit Lg Nl Go.Maps Wf
set_option linter.unusedVariables false
set_option linter.unusedSimpArgs false

def wv0 : Wv := ⟨[], [], [], []⟩
def erOf (b : Bool) : Int := if b then 0 else 1
theorem erOf_t : erOf true = 0 := rfl
theorem erOf_f : erOf false = 1 := rfl
def okT (x : Wv) (t : Int) : Bool := mayW x && decide (0 ≤ t)
def cutW (t : Int) (x : Wv) : Wv := ⟨x.nm, x.wd, x.fi, cutL t x.li⟩
def CheckC : Prop := ∀ (x : Wv) (vn vw vf vl : Value) (w : World), WvAt w vn vw vf vl x → Sz x → Bd x →
  Calls Tryz.prog 16 #[.agg #[vn, vw, vf, vl]] w fun e w' => e = .returned (.int .i64 (erOf (mayW x))) ∧ Below w.heap.size w w'
/-- awake's waveform -/
def wvA : Wv := ⟨[⟨#[97]⟩], [1], [⟨#[120]⟩], [⟨1, 0, ⟨#[48]⟩⟩, ⟨3, 0, ⟨#[49]⟩⟩]⟩
theorem wvA_may : mayW wvA = true := by decide +kernel
theorem wvA_okT3 : okT wvA 3 = true := by decide +kernel
theorem wvA_okT2 : okT wvA 2 = true := by decide +kernel
theorem wvA_cut : cutW 3 wvA = ⟨[⟨#[97]⟩], [1], [⟨#[120]⟩], [⟨1, 0, ⟨#[48]⟩⟩]⟩ := rfl
theorem wvA_cutmay : mayW (cutW 3 wvA) = true := by decide +kernel
theorem wvA_at : atL 2 wvA.fi wvA.li = [⟨#[48]⟩] := rfl
theorem wvA_beg : begB (cutW 3 wvA) wvA = true := by decide +kernel
theorem wvA_not : begB wvA (cutW 3 wvA) = false := by decide +kernel
theorem wvA_sz : Sz wvA := ⟨by decide, by decide, by decide, by decide⟩
theorem wvA_bd : Bd wvA := ⟨by decide, by decide, by decide, by decide⟩
theorem wvC_sz : Sz (cutW 3 wvA) := ⟨by decide, by decide, by decide, by decide⟩
theorem wvC_bd : Bd (cutW 3 wvA) := ⟨by decide, by decide, by decide, by decide⟩
theorem checkA (hCk : CheckC) (vn vw vf vl : Value) (W : World) (h : WvAt W vn vw vf vl wvA) : Calls Tryz.prog 16 #[.agg #[vn, vw, vf, vl]] W fun e w' => e = .returned (.int .i64 0) ∧ Below W.heap.size W w' := by
  have := hCk wvA vn vw vf vl W h wvA_sz wvA_bd
  rw [wvA_may] at this
  exact this
theorem one_cell {w : World} {b : Nat} {y : Value} {t : TypeId} (h : w.heap[b]? = some (.cells #[y] t (0, 0))) : w.cell? ⟨b, 0, none⟩ = some y := by rw [Lib.cell_of_heap h]; rfl
theorem wvA_at4 {W : World} {E0 E1 E2 E3 : Nat} {t1 t2 t3 t4 : TypeId} (h0 : W.heap[E0]? = some (.cells #[.string ⟨#[97]⟩] t1 (0, 0))) (h1 : W.heap[E1]? = some (.cells #[.int .i64 1] t2 (0, 0))) (h2 : W.heap[E2]? = some (.cells #[.string ⟨#[120]⟩] t3 (0, 0))) (h3 : W.heap[E3]? = some (.cells #[.int .i64 1, .int .i64 0, .string ⟨#[48]⟩, .int .i64 3, .int .i64 0, .string ⟨#[49]⟩] t4 (0, 0))) :
    WvAt W (.slice (some ⟨E0, 0, none⟩) 1 1) (.slice (some ⟨E1, 0, none⟩) 1 1) (.slice (some ⟨E2, 0, none⟩) 1 1) (.slice (some ⟨E3, 0, none⟩) 2 2) wvA := by
  refine ⟨⟨_, _, rfl, ⟨Nat.le_refl _, fun e => by cases e⟩, Or.inr ⟨E0, 0, rfl, hLt h0, ?_⟩⟩, ⟨_, _, rfl, Nat.le_refl _, Or.inr ⟨E1, 0, rfl, hLt h1, ?_⟩⟩, ⟨_, _, rfl, ⟨Nat.le_refl _, fun e => by cases e⟩, Or.inr ⟨E2, 0, rfl, hLt h2, ?_⟩⟩, ⟨_, _, rfl, ⟨Nat.le_refl _, fun e => by cases e⟩, Or.inr ⟨E3, 0, rfl, hLt h3, ?_⟩⟩⟩
  · intro i hi
    match i, hi with
    | 0, _ => exact one_cell h0
  · intro i hi
    match i, hi with
    | 0, _ => exact one_cell h1
  · intro i hi
    match i, hi with
    | 0, _ => exact one_cell h2
  · intro i hi j u hu
    match i, hi with
    | 0, _ =>
      match j, hu with
      | 0, hu => injection hu with hu; subst hu; rw [Lib.cell_of_heap h3]; rfl
      | 1, hu => injection hu with hu; subst hu; rw [Lib.cell_of_heap h3]; rfl
      | 2, hu => injection hu with hu; subst hu; rw [Lib.cell_of_heap h3]; rfl
      | n + 3, hu => simp [wvA, chC] at hu
    | 1, _ =>
      match j, hu with
      | 0, hu => injection hu with hu; subst hu; rw [Lib.cell_of_heap h3]; rfl
      | 1, hu => injection hu with hu; subst hu; rw [Lib.cell_of_heap h3]; rfl
      | 2, hu => injection hu with hu; subst hu; rw [Lib.cell_of_heap h3]; rfl
      | n + 3, hu => simp [wvA, chC] at hu
end Go.Proofs.YtodpljgajjcdoaaGreatDoor
