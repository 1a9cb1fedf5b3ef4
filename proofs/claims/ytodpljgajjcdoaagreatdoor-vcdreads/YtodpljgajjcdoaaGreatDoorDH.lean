/- Layer 19: what the program's functions are to tell (each proved for the landed code elsewhere), and awake over it. -/
import Derived.Test.YtodpljgajjcdoaaGreatDoorDG
namespace Go.Proofs.YtodpljgajjcdoaaGreatDoor
set_option maxRecDepth 100000
open Go.RowKit Lg Nl Go.Maps Wf Vd
set_option linter.unusedVariables false
set_option linter.unusedSimpArgs false

/-- awake's waveform -/
def wvD : Wv := ⟨[⟨#[97]⟩], [1], [⟨#[120]⟩], [⟨5, 0, ⟨#[49]⟩⟩]⟩
theorem itoa1 : Lib.itoa 1 = [49] := by
  show (if (1 : Int) < 0 then _ else Lib.decDigits (1 : Int).toNat) = _
  rw [if_neg (by decide)]
  show Lib.decDigits 1 = _
  rw [Lib.decDigits_one (by decide)]
  rfl
theorem itoa5 : Lib.itoa 5 = [53] := by
  show (if (5 : Int) < 0 then _ else Lib.decDigits (5 : Int).toNat) = _
  rw [if_neg (by decide)]
  show Lib.decDigits 5 = _
  rw [Lib.decDigits_one (by decide)]
  rfl
def txD : List UInt8 := headT ++ (varT ++ ([49] ++ (32 :: ([33] ++ (32 :: ([97] ++ endT))))) ++ (midT ++ ([120, 33, 10] ++ doneT))) ++ [35, 53, 10, 49, 33, 10]
theorem txD_is : textL wvD = txD := by
  have h1 : varsL wvD wvD.nm.length = varT ++ (Lib.itoa 1 ++ (32 :: ([33] ++ (32 :: ([97] ++ endT))))) := by
    show varsL wvD 1 = _
    rw [varsL_succ]
    rfl
  have h2 : listL none wvD.li = 35 :: (Lib.itoa 5 ++ [10]) ++ [49, 33, 10] := rfl
  unfold textL topL
  rw [h1, h2, itoa1, itoa5]
  rfl
theorem wvD_may : mayW wvD = true := by decide +kernel
theorem wvD_sz : Sz wvD := ⟨by decide, by decide, by decide, by decide⟩
theorem wvD_bd : Bd wvD := ⟨by decide, by decide, by decide, by decide⟩
theorem wvD_err : wrE wvD = 0 := by
  unfold wrE
  rw [wvD_may, if_pos rfl, txD_is]
  decide +kernel
theorem wvD_tx : wrT wvD = txD := by unfold wrT; rw [if_pos wvD_err, txD_is]
theorem wvD_same : sameB wvD wvD = true := by decide +kernel
def WriteC : Prop := ∀ (x : Wv) (vn vw vf vl : Value) (w : World), WvAt w vn vw vf vl x → Sz x → Bd x → x.li.length ≤ 100000000 → PowT w →
  Calls Tryz.prog 8 #[.agg #[vn, vw, vf, vl]] w fun e w' => e = .returned (.tuple #[.string (S (wrT x)), .int .i64 (wrE x)]) ∧ Below w.heap.size w w'
def okN (n : Int) : Bool := decide (0 ≤ n ∧ n < 4096)
def cdT (n : Int) : List UInt8 := if okN n then codeL n.toNat else []
def cdE (n : Int) : Int := if okN n then 0 else 1
def CodeC : Prop := ∀ (n : Int) (w : World), -9223372036854775808 ≤ n → n ≤ 9223372036854775807 →
  Calls Tryz.prog 9 #[.int .i64 n] w fun e w' => e = .returned (.tuple #[.string (S (cdT n)), .int .i64 (cdE n)]) ∧ Below w.heap.size w w'
/-- Read, at awake's dump alone -/
def ReadA : Prop := ∀ (w : World), PowT w →
  Calls Tryz.prog 5 #[.string (S txD)] w fun e w' => ∃ an cn aw_ cw af cf al cl, e = .returned (.tuple #[.agg #[.slice an 1 cn, .slice aw_ 1 cw, .slice af 1 cf, .slice al 1 cl], .int .i64 0]) ∧ Hid (WvAt w' (.slice an 1 cn) (.slice aw_ 1 cw) (.slice af 1 cf) (.slice al 1 cl) wvD) ∧ Below w.heap.size w w'
theorem writeA (hW : WriteC) (vn vw vf vl : Value) (w : World) (hx : WvAt w vn vw vf vl wvD) (hp : PowT w) : Calls Tryz.prog 8 #[.agg #[vn, vw, vf, vl]] w fun e w' => e = .returned (.tuple #[.string (S txD), .int .i64 0]) ∧ Below w.heap.size w w' := by
  have h := hW wvD vn vw vf vl w hx wvD_sz wvD_bd (by decide) hp
  rw [wvD_tx, wvD_err] at h
  exact h
theorem codeA (hC : CodeC) (w : World) : Calls Tryz.prog 9 #[.int .i64 94] w fun e w' => e = .returned (.tuple #[.string ⟨#[33, 33]⟩, .int .i64 0]) ∧ Below w.heap.size w w' := by
  have h := hC 94 w (by decide) (by decide)
  exact h
theorem txD_size : (S txD).size = 124 := by decide +kernel
theorem txD_end : (S txD).extract 118 124 = ⟨#[35, 53, 10, 49, 33, 10]⟩ := by decide +kernel
theorem wvD_at4 {W : World} {E0 E1 E2 E3 : Nat} {t1 t2 t3 t4 : TypeId} (h0 : W.heap[E0]? = some (.cells #[.string ⟨#[97]⟩] t1 (0, 0))) (h1 : W.heap[E1]? = some (.cells #[.int .i64 1] t2 (0, 0))) (h2 : W.heap[E2]? = some (.cells #[.string ⟨#[120]⟩] t3 (0, 0))) (h3 : W.heap[E3]? = some (.cells #[.int .i64 5, .int .i64 0, .string ⟨#[49]⟩] t4 (0, 0))) :
    WvAt W (.slice (some ⟨E0, 0, none⟩) 1 1) (.slice (some ⟨E1, 0, none⟩) 1 1) (.slice (some ⟨E2, 0, none⟩) 1 1) (.slice (some ⟨E3, 0, none⟩) 1 1) wvD := by
  refine ⟨⟨_, _, rfl, ⟨Nat.le_refl _, fun e => by cases e⟩, Or.inr ⟨E0, 0, rfl, hLt h0, ?_⟩⟩, ⟨_, _, rfl, Nat.le_refl _, Or.inr ⟨E1, 0, rfl, hLt h1, ?_⟩⟩, ⟨_, _, rfl, ⟨Nat.le_refl _, fun e => by cases e⟩, Or.inr ⟨E2, 0, rfl, hLt h2, ?_⟩⟩, ⟨_, _, rfl, ⟨Nat.le_refl _, fun e => by cases e⟩, Or.inr ⟨E3, 0, rfl, hLt h3, ?_⟩⟩⟩
  · intro i hi
    match i, hi with
    | 0, _ => rw [Lib.cell_of_heap h0]; rfl
  · intro i hi
    match i, hi with
    | 0, _ => rw [Lib.cell_of_heap h1]; rfl
  · intro i hi
    match i, hi with
    | 0, _ => rw [Lib.cell_of_heap h2]; rfl
  · intro i hi j u hu
    match i, hi with
    | 0, _ =>
      match j, hu with
      | 0, hu => injection hu with hu; subst hu; rw [Lib.cell_of_heap h3]; rfl
      | 1, hu => injection hu with hu; subst hu; rw [Lib.cell_of_heap h3]; rfl
      | 2, hu => injection hu with hu; subst hu; rw [Lib.cell_of_heap h3]; rfl
end Go.Proofs.YtodpljgajjcdoaaGreatDoor
