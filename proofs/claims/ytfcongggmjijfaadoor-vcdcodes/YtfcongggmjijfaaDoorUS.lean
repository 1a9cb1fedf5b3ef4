/- Layer 19 of the program: Read. -/
import Derived.Test.YtfcongggmjijfaaDoorUR
namespace Go.Proofs.YtfcongggmjijfaaDoor
set_option maxRecDepth 100000
open Go.RowKit Lg Nl Go.Maps Wf Vd
set_option linter.unusedVariables false
set_option linter.unusedSimpArgs false

/-- of a waveform, what Write asks -/
structure Fw (x : Wv) : Prop where
  z : Sz x
  b : Bd x
  l : x.li.length ≤ 100000000
def nilW : Value := .agg #[.slice none 0 0, .slice none 0 0, .slice none 0 0, .slice none 0 0]
theorem fw0 : Fw wv0 := ⟨⟨(by decide), (by decide), (by decide), (by decide)⟩, ⟨by decide, by decide, by decide, by decide⟩, by decide⟩
theorem read_txD : readM txD = some wvD := by kernel_rfl
theorem wv0_atN (W : World) : WvAt W (.slice none 0 0) (.slice none 0 0) (.slice none 0 0) (.slice none 0 0) wv0 :=
  ⟨⟨none, 0, rfl, ⟨Nat.le_refl _, fun _ => rfl⟩, Or.inl rfl⟩, ⟨none, 0, rfl, Nat.le_refl _, Or.inl rfl⟩, ⟨none, 0, rfl, ⟨Nat.le_refl _, fun _ => rfl⟩, Or.inl rfl⟩, ⟨none, 0, rfl, ⟨Nat.le_refl _, fun _ => rfl⟩, Or.inl rfl⟩⟩
theorem Read_long (s : ByteArray) (w : World) (hs : 1048576 < s.size) : Calls Tryd.prog 8 #[.string s] w fun e w' => e = .returned (.tuple #[nilW, .int .i64 4]) ∧ Below w.heap.size w w' := by
  have h1 : (1048576 : Int) < (s.size : Int) := by omega
  clear hs
  go_enter Tryd.func8, Tryd.ntmps8
  go_wp2_with fail
  simp [bodyPost, results, Tryd.results8, go_sem]
  exact ⟨rfl, belA (Below.refl _ _) _⟩
theorem far_blk {W : World} {E g k : Nat} {cs : Array Value} {t : TypeId} {fr : Nat × Nat} {u : Value} (hE : W.heap[E]? = some (.cells cs t fr)) (hcs : ∀ (j : Nat) (u : Value), cs[j]? = some u → ∃ (a : Option Addr) (n c : Nat), u = Value.slice a n c) (hu : ∀ (a : Option Addr) (n c : Nat), u ≠ Value.slice a n c) (hc : W.cell? ⟨g, k, none⟩ = some u) : g ≠ E := by
  intro e
  subst e
  rw [Lib.cell_of_heap hE] at hc
  obtain ⟨a, n, c, h⟩ := hcs k u hc
  exact hu a n c h
theorem wv_far {W W' : World} {E : Nat} {cs : Array Value} {t : TypeId} {fr : Nat × Nat} {vn vw vf vl : Value} {x : Wv} (hE : W.heap[E]? = some (.cells cs t fr)) (hcs : ∀ (j : Nat) (u : Value), cs[j]? = some u → ∃ (a : Option Addr) (n c : Nat), u = Value.slice a n c) (hf : ∀ k, k ≠ E → W'.heap[k]? = W.heap[k]?) (hs : W.heap.size ≤ W'.heap.size) (h : WvAt W vn vw vf vl x) : WvAt W' vn vw vf vl x := by
  have hS : ∀ (v : Value) (l : List ByteArray), StrAt W v l → StrAt W' v l := by
    rintro v l ⟨ao, cap, rfl, hc, hh⟩
    refine ⟨ao, cap, rfl, hc, ?_⟩
    rcases hh with hh | ⟨g, o, rfl, hg, hh⟩
    · exact Or.inl hh
    · cases l with
      | nil => exact Or.inl rfl
      | cons s l =>
        have hne := far_blk hE hcs (by intro a n c e; cases e) (hh 0 (Nat.zero_lt_succ _))
        exact Or.inr ⟨g, o, rfl, Nat.lt_of_lt_of_le hg hs, fun i hi => (World.cell?_of_block (hf g hne)).trans (hh i hi)⟩
  refine ⟨hS _ _ h.nm, ?_, hS _ _ h.fi, ?_⟩
  · obtain ⟨ao, cap, rfl, hc, hh⟩ := h.wd
    refine ⟨ao, cap, rfl, hc, ?_⟩
    rcases hh with hh | ⟨g, o, rfl, hg, hh⟩
    · exact Or.inl hh
    · cases hl : x.wd with
      | nil => exact Or.inl rfl
      | cons s l =>
        rw [hl] at hh
        have hne := far_blk hE hcs (by intro a n c e; cases e) (hh 0 (Nat.zero_lt_succ _))
        exact Or.inr ⟨g, o, rfl, Nat.lt_of_lt_of_le hg hs, fun i hi => (World.cell?_of_block (hf g hne)).trans (hh i hi)⟩
  · obtain ⟨ao, cap, rfl, hc, hh⟩ := h.li
    refine ⟨ao, cap, rfl, hc, ?_⟩
    rcases hh with hh | ⟨g, o, rfl, hg, hh⟩
    · exact Or.inl hh
    · cases hl : x.li with
      | nil => exact Or.inl rfl
      | cons s l =>
        rw [hl] at hh
        have hne := far_blk hE hcs (by intro a n c e; cases e) (hh 0 (Nat.zero_lt_succ _) 0 (.int .i64 s.t) rfl)
        exact Or.inr ⟨g, o, rfl, Nat.lt_of_lt_of_le hg hs, fun i hi j u hu => (World.cell?_of_block (hf g hne)).trans (hh i hi j u hu)⟩
theorem nil4 : ∀ (j : Nat) (u : Value), (#[Value.slice none 0 0, Value.slice none 0 0, Value.slice none 0 0, Value.slice none 0 0] : Array Value)[j]? = some u → ∃ (a : Option Addr) (n c : Nat), u = Value.slice a n c := by
  intro j u h
  match j, h with
  | 0, h => exact ⟨_, _, _, (Option.some.inj h).symm⟩
  | 1, h => exact ⟨_, _, _, (Option.some.inj h).symm⟩
  | 2, h => exact ⟨_, _, _, (Option.some.inj h).symm⟩
  | 3, h => exact ⟨_, _, _, (Option.some.inj h).symm⟩
/-- what Read tells of bytes that are not too many -/
def RdR (w : World) (q : Option Wv) (e : Ending) (w' : World) : Prop := Below w.heap.size w w' ∧ match q with
  | some x => ∃ an cn aw_ cw af cf al cl, e = .returned (.tuple #[.agg #[.slice an x.nm.length cn, .slice aw_ x.wd.length cw, .slice af x.fi.length cf, .slice al x.li.length cl], .int .i64 0]) ∧ WvAt w' (.slice an x.nm.length cn) (.slice aw_ x.wd.length cw) (.slice af x.fi.length cf) (.slice al x.li.length cl) x
  | none => e = .returned (.tuple #[nilW, .int .i64 190])
/-- what Read keeps of what the bytes tell -/
def keepM (l : List UInt8) : Option Wv := match readM l with
  | none => none
  | some x => if wrE x = 0 ∧ wrT x = l then some x else none
set_option maxHeartbeats 4000000 in
set_option maxRecDepth 100000 in
theorem Read_none (l : List UInt8) (w : World) (hl : l.length ≤ 1048576) (hp : PowT w) (hF : readM l = none → NumF w) (hq : readM l = none) :
    Calls Tryd.prog 8 #[.string (S l)] w fun e w' => e = .returned (.tuple #[nilW, .int .i64 190]) ∧ Below w.heap.size w w' := by
  have HL := hidV hl
  have h1 : ¬ (1048576 : Int) < ((S l).size : Int) := by rw [size_S]; omega
  obtain ⟨W1, hW1⟩ : ∃ W1, W1 = w.alloc (.cells #[.slice none 0 0, .slice none 0 0, .slice none 0 0, .slice none 0 0] 26) := ⟨_, rfl⟩
  have HB1 : Hid (Below w.heap.size w W1) := by rw [hW1]; exact belA (Below.refl _ _) _
  have HE1 : Hid (W1.heap[w.heap.size]? = some (.cells #[.slice none 0 0, .slice none 0 0, .slice none 0 0, .slice none 0 0] 26 (0, 0))) := by rw [hW1]; exact alAt rfl
  have HP1 : Hid (PowT W1) := hp.bel HB1.out
  have HR := hidV (read_c l W1 hl (fun e => (hF e).later HB1.out))
  have HLs : Hid (L (S l) = l) := L_S _
  rw [hq] at HR
  have HWr := hidV (fun W (h : PowT W) => write_c wv0 (.slice none 0 0) (.slice none 0 0) (.slice none 0 0) (.slice none 0 0) W (wv0_atN W) fw0.z fw0.b fw0.l h)
  clear hl hp hF hq HL HLs
  generalize S (wrT wv0) = tz at *
  generalize wrE wv0 = ez at *
  generalize S l = sl at *
  go_enter Tryd.func8, Tryd.ntmps8
  go_upto_region 3 with fail
  rw [← hW1]
  clear hW1
  obtain ⟨E, hE⟩ : ∃ q, q = w.heap.size := ⟨_, rfl⟩
  rw [← hE] at HE1 ⊢
  have HEs : Hid (E = w.heap.size) := hE
  clear hE
  go_upto_region 4 with (first
    | (go_at_call 18; refine HR.out.mono ?_; rintro e w2 ⟨hb2, rfl⟩; have HB2 := hidV hb2; clear hb2))
  obtain ⟨W3, hW3⟩ : ∃ W3, W3 = w2.alloc (.cells #[.slice none 0 0, .slice none 0 0, .slice none 0 0, .slice none 0 0] 26) := ⟨_, rfl⟩
  rw [← hW3]
  have HB3 : Hid (Below w2.heap.size w2 W3) := by rw [hW3]; exact belA (Below.refl _ _) _
  have h3 : W3.heap[w2.heap.size]? = some (.cells #[.slice none 0 0, .slice none 0 0, .slice none 0 0, .slice none 0 0] 26 (0, 0)) := by rw [hW3]; exact alAt rfl
  have HP3 : Hid (PowT W3) := (HP1.out.bel HB2.out).bel HB3.out
  clear hW3
  obtain ⟨F, hF3⟩ : ∃ q, q = w2.heap.size := ⟨_, rfl⟩
  rw [← hF3] at h3 ⊢
  clear hF3
  obtain ⟨b0, b1, b2, b3⟩ := cells4 h3
  go_upto_region 5 with (first
    | (go_at_call 7; refine (HWr.out _ HP3.out).mono ?_; rintro e w4 ⟨rfl, hb4⟩; have HB4 := hidV hb4; clear hb4))
  clear b0 b1 b2 b3 h3
  have hx4 := (HB4.out.block E (Nat.lt_of_lt_of_le (Nat.lt_of_lt_of_le (hLt HE1.out) HB2.out.size) HB3.out.size)).trans ((HB3.out.block E (Nat.lt_of_lt_of_le (hLt HE1.out) HB2.out.size)).trans ((HB2.out.block E (hLt HE1.out)).trans HE1.out))
  have HX4 := hidV hx4
  obtain ⟨c0, c1, c2, c3⟩ := cells4 hx4
  have f0 := Lib.frozen_of_heap hx4 0
  have f1 := Lib.frozen_of_heap hx4 1
  have f2 := Lib.frozen_of_heap hx4 2
  have f3 := Lib.frozen_of_heap hx4 3
  clear hx4
  go_wp2_with fail
  obtain ⟨d0, d1, d2, d3⟩ := cells4 (put4 (z0 := .slice none 0 0) (z1 := .slice none 0 0) (z2 := .slice none 0 0) (z3 := .slice none 0 0) HX4.out)
  have hle : w.heap.size ≤ E := by rw [HEs.out]; exact Nat.le_refl _
  have HBe := hidV (((((bel HB1.out (bel HB2.out (bel HB3.out HB4.out))).setCell (p := ⟨E, 0, none⟩) hle (.slice none 0 0)).setCell (p := ⟨E, 1, none⟩) hle (.slice none 0 0)).setCell (p := ⟨E, 2, none⟩) hle (.slice none 0 0)).setCell (p := ⟨E, 3, none⟩) hle (.slice none 0 0))
  simp [bodyPost, results, Tryd.results8, go_sem, d0, d1, d2, d3]
  exact ⟨rfl, HBe.out⟩
set_option maxHeartbeats 4000000 in
set_option maxRecDepth 100000 in
theorem Read_err (l : List UInt8) (x : Wv) (w : World) (hl : l.length ≤ 1048576) (hp : PowT w) (hq : readM l = some x) (hx : Fw x) (he : wrE x ≠ 0) :
    Calls Tryd.prog 8 #[.string (S l)] w fun e w' => e = .returned (.tuple #[nilW, .int .i64 190]) ∧ Below w.heap.size w w' := by
  have hF : readM l = none → NumF w := fun e => by rw [hq] at e; cases e
  have HL := hidV hl
  have h1 : ¬ (1048576 : Int) < ((S l).size : Int) := by rw [size_S]; omega
  obtain ⟨W1, hW1⟩ : ∃ W1, W1 = w.alloc (.cells #[.slice none 0 0, .slice none 0 0, .slice none 0 0, .slice none 0 0] 26) := ⟨_, rfl⟩
  have HB1 : Hid (Below w.heap.size w W1) := by rw [hW1]; exact belA (Below.refl _ _) _
  have HE1 : Hid (W1.heap[w.heap.size]? = some (.cells #[.slice none 0 0, .slice none 0 0, .slice none 0 0, .slice none 0 0] 26 (0, 0))) := by rw [hW1]; exact alAt rfl
  have HP1 : Hid (PowT W1) := hp.bel HB1.out
  have HR := hidV (read_c l W1 hl (fun e => (hF e).later HB1.out))
  have HLs : Hid (L (S l) = l) := L_S _
  rw [hq] at HR
  have HWr := hidV (fun vn vw vf vl W (h : WvAt W vn vw vf vl x) (h2 : PowT W) => write_c x vn vw vf vl W h hx.z hx.b hx.l h2)
  have HXx := hidV hx
  have hne : (wrE x == 0) = false := by rw [beq_eq_false_iff_ne]; exact he
  have hne2 : (wrE x != 0) = true := by rw [bne_iff_ne]; exact he
  have hne3 : ¬ wrE x = 0 := he
  clear hl hp hF hq HL HLs hx he
  generalize S (wrT x) = tz at *
  generalize wrE x = ez at *
  generalize S l = sl at *
  go_enter Tryd.func8, Tryd.ntmps8
  go_upto_region 3 with fail
  rw [← hW1]
  clear hW1
  obtain ⟨E, hE⟩ : ∃ q, q = w.heap.size := ⟨_, rfl⟩
  rw [← hE] at HE1 ⊢
  have HEs : Hid (E = w.heap.size) := hE
  clear hE
  go_upto_region 4 with (first
    | (go_at_call 18; refine HR.out.mono ?_; rintro e w2 ⟨hb2, an, cn, aw_, cw, af, cf, al, cl, rfl, hv2⟩; have HB2 := hidV hb2; have HV2 := hidV hv2; clear hb2 hv2))
  obtain ⟨W3, hW3⟩ : ∃ W3, W3 = w2.alloc (.cells #[.slice an x.nm.length cn, .slice aw_ x.wd.length cw, .slice af x.fi.length cf, .slice al x.li.length cl] 26) := ⟨_, rfl⟩
  rw [← hW3]
  have HB3 : Hid (Below w2.heap.size w2 W3) := by rw [hW3]; exact belA (Below.refl _ _) _
  have H3 : Hid (W3.heap[w2.heap.size]? = some (.cells #[.slice an x.nm.length cn, .slice aw_ x.wd.length cw, .slice af x.fi.length cf, .slice al x.li.length cl] 26 (0, 0))) := by rw [hW3]; exact alAt rfl
  have HP3 : Hid (PowT W3) := (HP1.out.bel HB2.out).bel HB3.out
  have HV3 := hidV (HV2.out.below HB3.out)
  clear hW3
  obtain ⟨F, hF3⟩ : ∃ q, q = w2.heap.size := ⟨_, rfl⟩
  rw [← hF3] at H3 ⊢
  have HFe : Hid (E < F) := by have h := Nat.lt_of_lt_of_le (hLt HE1.out) HB2.out.size; rw [← hF3] at h; exact h
  clear hF3
  obtain ⟨b0, b1, b2, b3⟩ := cells4 H3.out
  go_upto_region 5 with (first
    | (go_at_call 7; refine (HWr.out _ _ _ _ _ HV3.out HP3.out).mono ?_; rintro e w4 ⟨rfl, hb4⟩; have HB4 := hidV hb4; clear hb4))
  clear b0 b1 b2 b3
  have HV4 := hidV (HV3.out.below HB4.out)
  have hx4 := (HB4.out.block E (Nat.lt_of_lt_of_le (Nat.lt_of_lt_of_le (hLt HE1.out) HB2.out.size) HB3.out.size)).trans ((HB3.out.block E (Nat.lt_of_lt_of_le (hLt HE1.out) HB2.out.size)).trans ((HB2.out.block E (hLt HE1.out)).trans HE1.out))
  have HX4 := hidV hx4
  obtain ⟨c0, c1, c2, c3⟩ := cells4 hx4
  obtain ⟨b0, b1, b2, b3⟩ := cells4 ((HB4.out.block F (hLt H3.out)).trans H3.out)
  have f0 := Lib.frozen_of_heap hx4 0
  have f1 := Lib.frozen_of_heap hx4 1
  have f2 := Lib.frozen_of_heap hx4 2
  have f3 := Lib.frozen_of_heap hx4 3
  have hle : w.heap.size ≤ E := by rw [HEs.out]; exact Nat.le_refl _
  clear hx4
  go_wp2_with fail
  obtain ⟨d0, d1, d2, d3⟩ := cells4 (put4 (z0 := .slice none 0 0) (z1 := .slice none 0 0) (z2 := .slice none 0 0) (z3 := .slice none 0 0) HX4.out)
  have HBe := hidV (((((bel HB1.out (bel HB2.out (bel HB3.out HB4.out))).setCell (p := ⟨E, 0, none⟩) hle (.slice none 0 0)).setCell (p := ⟨E, 1, none⟩) hle (.slice none 0 0)).setCell (p := ⟨E, 2, none⟩) hle (.slice none 0 0)).setCell (p := ⟨E, 3, none⟩) hle (.slice none 0 0))
  simp [bodyPost, results, Tryd.results8, go_sem, d0, d1, d2, d3]
  exact ⟨rfl, HBe.out⟩
set_option maxHeartbeats 4000000 in
set_option maxRecDepth 100000 in
theorem Read_ne (l : List UInt8) (x : Wv) (w : World) (hl : l.length ≤ 1048576) (hp : PowT w) (hq : readM l = some x) (hx : Fw x) (he : wrE x = 0) (ht : wrT x ≠ l) :
    Calls Tryd.prog 8 #[.string (S l)] w fun e w' => e = .returned (.tuple #[nilW, .int .i64 190]) ∧ Below w.heap.size w w' := by
  have hF : readM l = none → NumF w := fun e => by rw [hq] at e; cases e
  have HL := hidV hl
  have h1 : ¬ (1048576 : Int) < ((S l).size : Int) := by rw [size_S]; omega
  obtain ⟨W1, hW1⟩ : ∃ W1, W1 = w.alloc (.cells #[.slice none 0 0, .slice none 0 0, .slice none 0 0, .slice none 0 0] 26) := ⟨_, rfl⟩
  have HB1 : Hid (Below w.heap.size w W1) := by rw [hW1]; exact belA (Below.refl _ _) _
  have HE1 : Hid (W1.heap[w.heap.size]? = some (.cells #[.slice none 0 0, .slice none 0 0, .slice none 0 0, .slice none 0 0] 26 (0, 0))) := by rw [hW1]; exact alAt rfl
  have HP1 : Hid (PowT W1) := hp.bel HB1.out
  have HR := hidV (read_c l W1 hl (fun e => (hF e).later HB1.out))
  have HLs : Hid (L (S l) = l) := L_S _
  rw [hq] at HR
  have HWr := hidV (fun vn vw vf vl W (h : WvAt W vn vw vf vl x) (h2 : PowT W) => write_c x vn vw vf vl W h hx.z hx.b hx.l h2)
  have HXx := hidV hx
  have hne : ((S (wrT x)).toList == (S l).toList) = false := by rw [beq_eq_false_iff_ne, toL, toL, L_S, L_S]; exact ht
  rw [he] at HWr
  clear hl hp hF hq HL HLs hx he ht
  generalize S (wrT x) = tz at *
  generalize S l = sl at *
  go_enter Tryd.func8, Tryd.ntmps8
  go_upto_region 3 with fail
  rw [← hW1]
  clear hW1
  obtain ⟨E, hE⟩ : ∃ q, q = w.heap.size := ⟨_, rfl⟩
  rw [← hE] at HE1 ⊢
  have HEs : Hid (E = w.heap.size) := hE
  clear hE
  go_upto_region 4 with (first
    | (go_at_call 18; refine HR.out.mono ?_; rintro e w2 ⟨hb2, an, cn, aw_, cw, af, cf, al, cl, rfl, hv2⟩; have HB2 := hidV hb2; have HV2 := hidV hv2; clear hb2 hv2))
  obtain ⟨W3, hW3⟩ : ∃ W3, W3 = w2.alloc (.cells #[.slice an x.nm.length cn, .slice aw_ x.wd.length cw, .slice af x.fi.length cf, .slice al x.li.length cl] 26) := ⟨_, rfl⟩
  rw [← hW3]
  have HB3 : Hid (Below w2.heap.size w2 W3) := by rw [hW3]; exact belA (Below.refl _ _) _
  have H3 : Hid (W3.heap[w2.heap.size]? = some (.cells #[.slice an x.nm.length cn, .slice aw_ x.wd.length cw, .slice af x.fi.length cf, .slice al x.li.length cl] 26 (0, 0))) := by rw [hW3]; exact alAt rfl
  have HP3 : Hid (PowT W3) := (HP1.out.bel HB2.out).bel HB3.out
  have HV3 := hidV (HV2.out.below HB3.out)
  clear hW3
  obtain ⟨F, hF3⟩ : ∃ q, q = w2.heap.size := ⟨_, rfl⟩
  rw [← hF3] at H3 ⊢
  have HFe : Hid (E < F) := by have h := Nat.lt_of_lt_of_le (hLt HE1.out) HB2.out.size; rw [← hF3] at h; exact h
  clear hF3
  obtain ⟨b0, b1, b2, b3⟩ := cells4 H3.out
  go_upto_region 5 with (first
    | (go_at_call 7; refine (HWr.out _ _ _ _ _ HV3.out HP3.out).mono ?_; rintro e w4 ⟨rfl, hb4⟩; have HB4 := hidV hb4; clear hb4))
  clear b0 b1 b2 b3
  have HV4 := hidV (HV3.out.below HB4.out)
  have hx4 := (HB4.out.block E (Nat.lt_of_lt_of_le (Nat.lt_of_lt_of_le (hLt HE1.out) HB2.out.size) HB3.out.size)).trans ((HB3.out.block E (Nat.lt_of_lt_of_le (hLt HE1.out) HB2.out.size)).trans ((HB2.out.block E (hLt HE1.out)).trans HE1.out))
  have HX4 := hidV hx4
  obtain ⟨c0, c1, c2, c3⟩ := cells4 hx4
  obtain ⟨b0, b1, b2, b3⟩ := cells4 ((HB4.out.block F (hLt H3.out)).trans H3.out)
  have f0 := Lib.frozen_of_heap hx4 0
  have f1 := Lib.frozen_of_heap hx4 1
  have f2 := Lib.frozen_of_heap hx4 2
  have f3 := Lib.frozen_of_heap hx4 3
  have hle : w.heap.size ≤ E := by rw [HEs.out]; exact Nat.le_refl _
  clear hx4
  go_wp2_with fail
  obtain ⟨d0, d1, d2, d3⟩ := cells4 (put4 (z0 := .slice none 0 0) (z1 := .slice none 0 0) (z2 := .slice none 0 0) (z3 := .slice none 0 0) HX4.out)
  have HBe := hidV (((((bel HB1.out (bel HB2.out (bel HB3.out HB4.out))).setCell (p := ⟨E, 0, none⟩) hle (.slice none 0 0)).setCell (p := ⟨E, 1, none⟩) hle (.slice none 0 0)).setCell (p := ⟨E, 2, none⟩) hle (.slice none 0 0)).setCell (p := ⟨E, 3, none⟩) hle (.slice none 0 0))
  simp [bodyPost, results, Tryd.results8, go_sem, d0, d1, d2, d3]
  exact ⟨rfl, HBe.out⟩
set_option maxHeartbeats 4000000 in
set_option maxRecDepth 100000 in
theorem Read_yes (l : List UInt8) (x : Wv) (w : World) (hl : l.length ≤ 1048576) (hp : PowT w) (hq : readM l = some x) (hx : Fw x) (he : wrE x = 0) (ht : wrT x = l) :
    Calls Tryd.prog 8 #[.string (S l)] w fun e w' => ∃ an cn aw_ cw af cf al cl, e = .returned (.tuple #[.agg #[.slice an x.nm.length cn, .slice aw_ x.wd.length cw, .slice af x.fi.length cf, .slice al x.li.length cl], .int .i64 0]) ∧ Hid (WvAt w' (.slice an x.nm.length cn) (.slice aw_ x.wd.length cw) (.slice af x.fi.length cf) (.slice al x.li.length cl) x) ∧ Below w.heap.size w w' := by
  have hF : readM l = none → NumF w := fun e => by rw [hq] at e; cases e
  have HL := hidV hl
  have h1 : ¬ (1048576 : Int) < ((S l).size : Int) := by rw [size_S]; omega
  obtain ⟨W1, hW1⟩ : ∃ W1, W1 = w.alloc (.cells #[.slice none 0 0, .slice none 0 0, .slice none 0 0, .slice none 0 0] 26) := ⟨_, rfl⟩
  have HB1 : Hid (Below w.heap.size w W1) := by rw [hW1]; exact belA (Below.refl _ _) _
  have HE1 : Hid (W1.heap[w.heap.size]? = some (.cells #[.slice none 0 0, .slice none 0 0, .slice none 0 0, .slice none 0 0] 26 (0, 0))) := by rw [hW1]; exact alAt rfl
  have HP1 : Hid (PowT W1) := hp.bel HB1.out
  have HR := hidV (read_c l W1 hl (fun e => (hF e).later HB1.out))
  have HLs : Hid (L (S l) = l) := L_S _
  rw [hq] at HR
  have HWr := hidV (fun vn vw vf vl W (h : WvAt W vn vw vf vl x) (h2 : PowT W) => write_c x vn vw vf vl W h hx.z hx.b hx.l h2)
  have HXx := hidV hx
  have hne : ((S (wrT x)).toList == (S l).toList) = true := by rw [beq_iff_eq, ht]
  rw [he] at HWr
  clear hl hp hF hq HL HLs hx he ht
  generalize S (wrT x) = tz at *
  generalize S l = sl at *
  go_enter Tryd.func8, Tryd.ntmps8
  go_upto_region 3 with fail
  rw [← hW1]
  clear hW1
  obtain ⟨E, hE⟩ : ∃ q, q = w.heap.size := ⟨_, rfl⟩
  rw [← hE] at HE1 ⊢
  have HEs : Hid (E = w.heap.size) := hE
  clear hE
  go_upto_region 4 with (first
    | (go_at_call 18; refine HR.out.mono ?_; rintro e w2 ⟨hb2, an, cn, aw_, cw, af, cf, al, cl, rfl, hv2⟩; have HB2 := hidV hb2; have HV2 := hidV hv2; clear hb2 hv2))
  obtain ⟨W3, hW3⟩ : ∃ W3, W3 = w2.alloc (.cells #[.slice an x.nm.length cn, .slice aw_ x.wd.length cw, .slice af x.fi.length cf, .slice al x.li.length cl] 26) := ⟨_, rfl⟩
  rw [← hW3]
  have HB3 : Hid (Below w2.heap.size w2 W3) := by rw [hW3]; exact belA (Below.refl _ _) _
  have H3 : Hid (W3.heap[w2.heap.size]? = some (.cells #[.slice an x.nm.length cn, .slice aw_ x.wd.length cw, .slice af x.fi.length cf, .slice al x.li.length cl] 26 (0, 0))) := by rw [hW3]; exact alAt rfl
  have HP3 : Hid (PowT W3) := (HP1.out.bel HB2.out).bel HB3.out
  have HV3 := hidV (HV2.out.below HB3.out)
  clear hW3
  obtain ⟨F, hF3⟩ : ∃ q, q = w2.heap.size := ⟨_, rfl⟩
  rw [← hF3] at H3 ⊢
  have HFe : Hid (E < F) := by have h := Nat.lt_of_lt_of_le (hLt HE1.out) HB2.out.size; rw [← hF3] at h; exact h
  clear hF3
  obtain ⟨b0, b1, b2, b3⟩ := cells4 H3.out
  go_upto_region 5 with (first
    | (go_at_call 7; refine (HWr.out _ _ _ _ _ HV3.out HP3.out).mono ?_; rintro e w4 ⟨rfl, hb4⟩; have HB4 := hidV hb4; clear hb4))
  clear b0 b1 b2 b3
  have HV4 := hidV (HV3.out.below HB4.out)
  have hx4 := (HB4.out.block E (Nat.lt_of_lt_of_le (Nat.lt_of_lt_of_le (hLt HE1.out) HB2.out.size) HB3.out.size)).trans ((HB3.out.block E (Nat.lt_of_lt_of_le (hLt HE1.out) HB2.out.size)).trans ((HB2.out.block E (hLt HE1.out)).trans HE1.out))
  have HX4 := hidV hx4
  obtain ⟨c0, c1, c2, c3⟩ := cells4 hx4
  obtain ⟨b0, b1, b2, b3⟩ := cells4 ((HB4.out.block F (hLt H3.out)).trans H3.out)
  have f0 := Lib.frozen_of_heap hx4 0
  have f1 := Lib.frozen_of_heap hx4 1
  have f2 := Lib.frozen_of_heap hx4 2
  have f3 := Lib.frozen_of_heap hx4 3
  have hle : w.heap.size ≤ E := by rw [HEs.out]; exact Nat.le_refl _
  clear hx4
  go_wp2_with fail
  have hp4 := put4 (z0 := .slice an x.nm.length cn) (z1 := .slice aw_ x.wd.length cw) (z2 := .slice af x.fi.length cf) (z3 := .slice al x.li.length cl) HX4.out
  obtain ⟨d0, d1, d2, d3⟩ := cells4 hp4
  have HBe := hidV (((((bel HB1.out (bel HB2.out (bel HB3.out HB4.out))).setCell (p := ⟨E, 0, none⟩) hle (.slice an x.nm.length cn)).setCell (p := ⟨E, 1, none⟩) hle (.slice aw_ x.wd.length cw)).setCell (p := ⟨E, 2, none⟩) hle (.slice af x.fi.length cf)).setCell (p := ⟨E, 3, none⟩) hle (.slice al x.li.length cl))
  have HVe := hidV (wv_far HX4.out nil4 (fun k hk => put4f (z0 := .slice an x.nm.length cn) (z1 := .slice aw_ x.wd.length cw) (z2 := .slice af x.fi.length cf) (z3 := .slice al x.li.length cl) hk) (by simp [World.setCell]) HV4.out)
  clear hp4
  simp [bodyPost, results, Tryd.results8, go_sem, d0, d1, d2, d3]
  refine ⟨an, cn, aw_, cw, af, cf, al, cl, ?_⟩
  refine ⟨?_, HVe.out, HBe.out⟩
  simp
theorem wvD_fw : Fw wvD := ⟨wvD_sz, wvD_bd, by decide⟩
/-- Read, at awake's dump -/
theorem readA_c : ReadA := fun w hp => Read_yes txD wvD w (by decide) hp read_txD wvD_fw wvD_err wvD_tx
end Go.Proofs.YtfcongggmjijfaaDoor
