/- Layer 18: what the program's functions are to tell (each proved for the landed code elsewhere), and awake over it. -/
import Derived.Test.YtfefgldngkpgjaaVF
namespace Go.Proofs.Ytfefgldngkpgjaa
set_option maxRecDepth 100000
open Go.RowKit Lg Nl Go.Maps Wf
set_option linter.unusedVariables false
set_option linter.unusedSimpArgs false

def wv0 : Wv := ⟨[], [], [], []⟩
def erOf (b : Bool) : Int := if b then 0 else 1
theorem erOf_t : erOf true = 0 := rfl
theorem erOf_f : erOf false = 1 := rfl
def okT (x : Wv) (t : Int) : Bool := mayW x && decide (0 ≤ t)
def cutW (t : Int) (x : Wv) : Wv := ⟨x.nm, x.wd, x.fi, cutL t x.li⟩
def CheckC : Prop := ∀ (x : Wv) (vn vw vf vl : Value) (w : World), WvAt w vn vw vf vl x → Sz x → Bd x →
  Calls Try.prog 9 #[.agg #[vn, vw, vf, vl]] w fun e w' => e = .returned (.int .i64 (erOf (mayW x))) ∧ Below w.heap.size w w'
def CutC : Prop := ∀ (x : Wv) (vn vw vf vl : Value) (t : Int) (w : World), WvAt w vn vw vf vl x → Sz x → Bd x → x.li.length ≤ 4398046511000 →
  Calls Try.prog 12 #[.agg #[vn, vw, vf, vl], .int .i64 t] w fun e w' => ∃ un uw uf ul, e = .returned (.tuple #[.agg #[un, uw, uf, ul], .int .i64 (erOf (okT x t))]) ∧ Hid (WvAt w' un uw uf ul (if okT x t then cutW t x else wv0)) ∧ Below w.heap.size w w'
def AtC : Prop := ∀ (x : Wv) (vn vw vf vl : Value) (t : Int) (w : World), WvAt w vn vw vf vl x → Sz x → Bd x → x.li.length ≤ 4398046511000 →
  Calls Try.prog 13 #[.agg #[vn, vw, vf, vl], .int .i64 t] w fun e w' => ∃ v, e = .returned (.tuple #[v, .int .i64 (erOf (okT x t))]) ∧ Hid (StrAt w' v (if okT x t then atL t x.fi x.li else [])) ∧ Below w.heap.size w w'
def BeginsC : Prop := ∀ (x y : Wv) (vn vw vf vl un uw uf ul : Value) (w : World), WvAt w vn vw vf vl x → WvAt w un uw uf ul y → Sz x → Sz y → Bd x → Bd y →
  Calls Try.prog 17 #[.agg #[vn, vw, vf, vl], .agg #[un, uw, uf, ul]] w fun e w' => e = .returned (.bool (mayW x && mayW y && begB x y)) ∧ Below w.heap.size w w'
/-- awake's waveform -/
def wvA : Wv := ⟨[⟨#[97]⟩], [1], [⟨#[120]⟩], [⟨1, 0, ⟨#[48]⟩⟩, ⟨3, 0, ⟨#[49]⟩⟩]⟩
theorem wvA_may : mayW wvA = true := by decide +kernel
theorem wvA_okT3 : okT wvA 3 = true := by decide +kernel
theorem wvA_okT2 : okT wvA 2 = true := by decide +kernel
theorem wvA_cut : cutW 3 wvA = ⟨[⟨#[97]⟩], [1], [⟨#[120]⟩], [⟨1, 0, ⟨#[48]⟩⟩]⟩ := rfl
theorem wvA_cutmay : mayW (cutW 3 wvA) = true := by decide +kernel
theorem wvA_at : atL 2 wvA.fi wvA.li = [⟨#[48]⟩] := rfl
theorem wvA_beg : begB (cutW 3 wvA) wvA = true := by decide +kernel
theorem wvA_not : begB wvA (cutW 3 wvA) = false := by decide +kernel
theorem wvA_sz : Sz wvA := ⟨by decide, by decide, by decide, by decide⟩
theorem wvA_bd : Bd wvA := ⟨by decide, by decide, by decide, by decide⟩
theorem wvC_sz : Sz (cutW 3 wvA) := ⟨by decide, by decide, by decide, by decide⟩
theorem wvC_bd : Bd (cutW 3 wvA) := ⟨by decide, by decide, by decide, by decide⟩
theorem cutA (hCu : CutC) (vn vw vf vl : Value) (W : World) (h : WvAt W vn vw vf vl wvA) : Calls Try.prog 12 #[.agg #[vn, vw, vf, vl], .int .i64 3] W fun e w' => ∃ an cn aw_ cw af cf al cl, e = .returned (.tuple #[.agg #[.slice an 1 cn, .slice aw_ 1 cw, .slice af 1 cf, .slice al 1 cl], .int .i64 0]) ∧ Hid (WvAt w' (.slice an 1 cn) (.slice aw_ 1 cw) (.slice af 1 cf) (.slice al 1 cl) (cutW 3 wvA)) ∧ Below W.heap.size W w' := by
  refine (hCu wvA vn vw vf vl 3 W h wvA_sz wvA_bd (by decide)).mono ?_
  rintro e w' ⟨un, uw, uf, ul, rfl, hw, hb⟩
  rw [wvA_okT3, if_pos rfl] at hw
  have hw' := hw.out
  obtain ⟨an, cn, rfl, _, _⟩ := hw.out.nm
  obtain ⟨aw_, cw, rfl, _, _⟩ := hw.out.wd
  obtain ⟨af, cf, rfl, _, _⟩ := hw.out.fi
  obtain ⟨al, cl, rfl, _, _⟩ := hw.out.li
  exact ⟨an, cn, aw_, cw, af, cf, al, cl, by rw [wvA_okT3]; rfl, hw', hb⟩
theorem atA (hAt : AtC) (vn vw vf vl : Value) (W : World) (h : WvAt W vn vw vf vl wvA) : Calls Try.prog 13 #[.agg #[vn, vw, vf, vl], .int .i64 2] W fun e w' => ∃ g o c, e = .returned (.tuple #[.slice (some ⟨g, o, none⟩) 1 c, .int .i64 0]) ∧ Hid (g < w'.heap.size ∧ w'.cell? ⟨g, o, none⟩ = some (.string ⟨#[48]⟩)) ∧ Below W.heap.size W w' := by
  refine (hAt wvA vn vw vf vl 2 W h wvA_sz wvA_bd (by decide)).mono ?_
  rintro e w' ⟨v, rfl, hw, hb⟩
  rw [wvA_okT2, if_pos rfl, wvA_at] at hw
  obtain ⟨ao, c, rfl, _, hh⟩ := hw.out
  rcases hh with hh | ⟨g, o, rfl, hg, hc⟩
  · cases hh
  · exact ⟨g, o, c, by rw [wvA_okT2]; rfl, ⟨hg, hc 0 (by decide)⟩, hb⟩
theorem checkA (hCk : CheckC) (vn vw vf vl : Value) (W : World) (h : WvAt W vn vw vf vl wvA) : Calls Try.prog 9 #[.agg #[vn, vw, vf, vl]] W fun e w' => e = .returned (.int .i64 0) ∧ Below W.heap.size W w' := by
  have := hCk wvA vn vw vf vl W h wvA_sz wvA_bd
  rw [wvA_may] at this
  exact this
theorem begA1 (hBe : BeginsC) (vn vw vf vl un uw uf ul : Value) (W : World) (h : WvAt W vn vw vf vl (cutW 3 wvA)) (h2 : WvAt W un uw uf ul wvA) : Calls Try.prog 17 #[.agg #[vn, vw, vf, vl], .agg #[un, uw, uf, ul]] W fun e w' => e = .returned (.bool true) ∧ Below W.heap.size W w' := by
  have := hBe _ _ vn vw vf vl un uw uf ul W h h2 wvC_sz wvA_sz wvC_bd wvA_bd
  rw [wvA_may, wvA_cutmay, wvA_beg] at this
  exact this
theorem begA2 (hBe : BeginsC) (vn vw vf vl un uw uf ul : Value) (W : World) (h : WvAt W vn vw vf vl (cutW 3 wvA)) (h2 : WvAt W un uw uf ul wvA) : Calls Try.prog 17 #[.agg #[un, uw, uf, ul], .agg #[vn, vw, vf, vl]] W fun e w' => e = .returned (.bool false) ∧ Below W.heap.size W w' := by
  have := hBe _ _ un uw uf ul vn vw vf vl W h2 h wvA_sz wvC_sz wvA_bd wvC_bd
  rw [wvA_may, wvA_cutmay, wvA_not] at this
  exact this
theorem one_cell {w : World} {b : Nat} {y : Value} {t : TypeId} (h : w.heap[b]? = some (.cells #[y] t (0, 0))) : w.cell? ⟨b, 0, none⟩ = some y := by rw [Lib.cell_of_heap h]; rfl
theorem wvA_at4 {W : World} {E0 E1 E2 E3 : Nat} {t1 t2 t3 t4 : TypeId} (h0 : W.heap[E0]? = some (.cells #[.string ⟨#[97]⟩] t1 (0, 0))) (h1 : W.heap[E1]? = some (.cells #[.int .i64 1] t2 (0, 0))) (h2 : W.heap[E2]? = some (.cells #[.string ⟨#[120]⟩] t3 (0, 0))) (h3 : W.heap[E3]? = some (.cells #[.int .i64 1, .int .i64 0, .string ⟨#[48]⟩, .int .i64 3, .int .i64 0, .string ⟨#[49]⟩] t4 (0, 0))) :
    WvAt W (.slice (some ⟨E0, 0, none⟩) 1 1) (.slice (some ⟨E1, 0, none⟩) 1 1) (.slice (some ⟨E2, 0, none⟩) 1 1) (.slice (some ⟨E3, 0, none⟩) 2 2) wvA := by
  refine ⟨⟨_, _, rfl, ⟨Nat.le_refl _, fun e => by cases e⟩, Or.inr ⟨E0, 0, rfl, hLt h0, ?_⟩⟩, ⟨_, _, rfl, Nat.le_refl _, Or.inr ⟨E1, 0, rfl, hLt h1, ?_⟩⟩, ⟨_, _, rfl, ⟨Nat.le_refl _, fun e => by cases e⟩, Or.inr ⟨E2, 0, rfl, hLt h2, ?_⟩⟩, ⟨_, _, rfl, ⟨Nat.le_refl _, fun e => by cases e⟩, Or.inr ⟨E3, 0, rfl, hLt h3, ?_⟩⟩⟩
  · intro i hi
    match i, hi with
    | 0, _ => exact one_cell h0
  · intro i hi
    match i, hi with
    | 0, _ => exact one_cell h1
  · intro i hi
    match i, hi with
    | 0, _ => exact one_cell h2
  · intro i hi j u hu
    match i, hi with
    | 0, _ =>
      match j, hu with
      | 0, hu => injection hu with hu; subst hu; rw [Lib.cell_of_heap h3]; rfl
      | 1, hu => injection hu with hu; subst hu; rw [Lib.cell_of_heap h3]; rfl
      | 2, hu => injection hu with hu; subst hu; rw [Lib.cell_of_heap h3]; rfl
      | n + 3, hu => simp [wvA, chC] at hu
    | 1, _ =>
      match j, hu with
      | 0, hu => injection hu with hu; subst hu; rw [Lib.cell_of_heap h3]; rfl
      | 1, hu => injection hu with hu; subst hu; rw [Lib.cell_of_heap h3]; rfl
      | 2, hu => injection hu with hu; subst hu; rw [Lib.cell_of_heap h3]; rfl
      | n + 3, hu => simp [wvA, chC] at hu
set_option maxHeartbeats 1000000 in
set_option maxRecDepth 1000000 in
theorem awake18 (hCk : CheckC) (hCu : CutC) (hAt : AtC) (hBe : BeginsC) (w : World) : Calls Try.prog 11 #[] w fun e w' => e = .returned (.bool true) ∧ Below w.heap.size w w' := by
  have HCk : Hid CheckC := hCk
  have HCu : Hid CutC := hCu
  have HAt : Hid AtC := hAt
  have HBe : Hid BeginsC := hBe
  clear hCk hCu hAt hBe
  obtain ⟨W1, hW1⟩ : ∃ W1, W1 = (((((w.alloc (.cells #[.string ⟨#[97]⟩] 9)).alloc (.cells #[.int .i64 1] 3)).alloc (.cells #[.string ⟨#[120]⟩] 9)).alloc (.cells #[.int .i64 1, .int .i64 0, .string ⟨#[48]⟩, .int .i64 3, .int .i64 0, .string ⟨#[49]⟩] 46)).alloc (.cells #[.slice (some ⟨w.heap.size, 0, none⟩) 1 1, .slice (some ⟨w.heap.size + 1, 0, none⟩) 1 1, .slice (some ⟨w.heap.size + 1 + 1, 0, none⟩) 1 1, .slice (some ⟨w.heap.size + 1 + 1 + 1, 0, none⟩) 2 2] 26)) := ⟨_, rfl⟩
  have HB1 : Hid (Below w.heap.size w W1) := by rw [hW1]; exact belA (belA (belA (belA (belA (Below.refl _ _) _) _) _) _) _
  have HX : Hid (W1.heap[w.heap.size + 1 + 1 + 1 + 1]? = some (.cells #[.slice (some ⟨w.heap.size, 0, none⟩) 1 1, .slice (some ⟨w.heap.size + 1, 0, none⟩) 1 1, .slice (some ⟨w.heap.size + 1 + 1, 0, none⟩) 1 1, .slice (some ⟨w.heap.size + 1 + 1 + 1, 0, none⟩) 2 2] 26 (0, 0))) := by rw [hW1]; exact alAt (by simp)
  have HA : Hid (WvAt W1 (.slice (some ⟨w.heap.size, 0, none⟩) 1 1) (.slice (some ⟨w.heap.size + 1, 0, none⟩) 1 1) (.slice (some ⟨w.heap.size + 1 + 1, 0, none⟩) 1 1) (.slice (some ⟨w.heap.size + 1 + 1 + 1, 0, none⟩) 2 2) wvA) := by
    rw [hW1]
    exact wvA_at4 ((alOld (by simp <;> omega)).trans ((alOld (by simp <;> omega)).trans ((alOld (by simp <;> omega)).trans ((alOld (by simp)).trans (alAt rfl))))) ((alOld (by simp <;> omega)).trans ((alOld (by simp <;> omega)).trans ((alOld (by simp)).trans (alAt (by simp))))) ((alOld (by simp <;> omega)).trans ((alOld (by simp)).trans (alAt (by simp)))) ((alOld (by simp)).trans (alAt (by simp)))
  go_enter Try.func11, Try.ntmps11
  go_upto_region 2 with fail
  rw [← hW1]
  clear hW1
  generalize w.heap.size + 1 + 1 + 1 + 1 = X at *
  generalize (Value.slice (some ⟨w.heap.size, 0, none⟩) 1 1) = a0 at *
  generalize (Value.slice (some ⟨w.heap.size + 1, 0, none⟩) 1 1) = a1 at *
  generalize (Value.slice (some ⟨w.heap.size + 1 + 1, 0, none⟩) 1 1) = a2 at *
  generalize (Value.slice (some ⟨w.heap.size + 1 + 1 + 1, 0, none⟩) 2 2) = a3 at *
  obtain ⟨x0, x1, x2, x3⟩ := cells4 HX.out
  have lx := hLt HX.out
  go_upto_region 3 with (first
    | (go_at_call 12; refine (cutA HCu.out _ _ _ _ _ HA.out).mono ?_; rintro e w2 ⟨an, cn, aw_, cw, af, cf, al, cl, rfl, HW2, hb2⟩))
  obtain ⟨W3, hW3⟩ : ∃ W3, W3 = w2.alloc (.cells #[.slice an 1 cn, .slice aw_ 1 cw, .slice af 1 cf, .slice al 1 cl] 26) := ⟨_, rfl⟩
  rw [← hW3]
  have HB3 : Hid (Below W1.heap.size W1 W3) := by rw [hW3]; exact belA hb2 _
  have HY3 : Hid (W3.heap[w2.heap.size]? = some (.cells #[.slice an 1 cn, .slice aw_ 1 cw, .slice af 1 cf, .slice al 1 cl] 26 (0, 0))) := by rw [hW3]; exact alAt rfl
  have HC3 : Hid (WvAt W3 (.slice an 1 cn) (.slice aw_ 1 cw) (.slice af 1 cf) (.slice al 1 cl) (cutW 3 wvA)) := by rw [hW3]; exact HW2.out.below (belA (Below.refl _ _) _)
  clear hW3 hb2 HW2 x0 x1 x2 x3
  generalize w2.heap.size = Y at *
  have HA3 : Hid (WvAt W3 a0 a1 a2 a3 wvA) := HA.out.below HB3.out
  have HX3 : Hid (W3.heap[X]? = some (.cells #[a0, a1, a2, a3] 26 (0, 0))) := (HB3.out.block X lx).trans HX.out
  clear lx
  have lx := hLt HX3.out
  have ly := hLt HY3.out
  obtain ⟨x0, x1, x2, x3⟩ := cells4 HX3.out
  go_upto_region 4 with (first
    | (go_at_call 13; refine (atA HAt.out _ _ _ _ _ HA3.out).mono ?_; rintro e w4 ⟨g, o, c, rfl, HG, hb4⟩))
  have HB4 : Hid (Below W3.heap.size W3 w4) := hb4
  clear x0 x1 x2 x3 hb4
  obtain ⟨x0, x1, x2, x3⟩ := cells4 ((HB4.out.block X lx).trans HX3.out)
  obtain ⟨y0, y1, y2, y3⟩ := cells4 ((HB4.out.block Y ly).trans HY3.out)
  have g0 := HG.out.2
  have lg := HG.out.1
  have lx4 := Nat.lt_of_lt_of_le lx HB4.out.size
  have ly4 := Nat.lt_of_lt_of_le ly HB4.out.size
  go_wp2_with (first
    | (go_at_call 9; refine (checkA HCk.out a0 a1 a2 a3 w4 (HA3.out.below HB4.out)).mono ?_; rintro e w5 ⟨rfl, hb5⟩; obtain ⟨x0', x1', x2', x3'⟩ := cells4 ((hb5.block X lx4).trans ((HB4.out.block X lx).trans HX3.out)); obtain ⟨y0', y1', y2', y3'⟩ := cells4 ((hb5.block Y ly4).trans ((HB4.out.block Y ly).trans HY3.out)); have g0' := (hb5.cell (p := ⟨g, o, none⟩) lg).trans g0; have lx5 := Nat.lt_of_lt_of_le lx4 hb5.size; have ly5 := Nat.lt_of_lt_of_le ly4 hb5.size)
    | (go_at_call 17; refine (begA2 HBe.out (.slice an 1 cn) (.slice aw_ 1 cw) (.slice af 1 cf) (.slice al 1 cl) a0 a1 a2 a3 w6 (HC3.out.below (bel (bel HB4.out hb5) hb6)) (HA3.out.below (bel (bel HB4.out hb5) hb6))).mono ?_; rintro e w7 ⟨rfl, hb7⟩)
    | (go_at_call 17; refine (begA1 HBe.out (.slice an 1 cn) (.slice aw_ 1 cw) (.slice af 1 cf) (.slice al 1 cl) a0 a1 a2 a3 w5 (HC3.out.below (bel HB4.out hb5)) (HA3.out.below (bel HB4.out hb5))).mono ?_; rintro e w6 ⟨rfl, hb6⟩; obtain ⟨x0'', x1'', x2'', x3''⟩ := cells4 ((hb6.block X lx5).trans ((hb5.block X lx4).trans ((HB4.out.block X lx).trans HX3.out))); obtain ⟨y0'', y1'', y2'', y3''⟩ := cells4 ((hb6.block Y ly5).trans ((hb5.block Y ly4).trans ((HB4.out.block Y ly).trans HY3.out))); have lx6 := Nat.lt_of_lt_of_le lx5 hb6.size; have ly6 := Nat.lt_of_lt_of_le ly5 hb6.size))
  go_ret
  exact ⟨rfl, bel HB1.out (bel HB3.out (bel HB4.out (bel hb5 (bel hb6 hb7))))⟩
end Go.Proofs.Ytfefgldngkpgjaa
