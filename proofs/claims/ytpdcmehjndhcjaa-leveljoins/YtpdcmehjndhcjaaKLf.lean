/- Layer 11's awake: two small netlists; the statements' gate that turns. -/
import Derived.Test.YtpdcmehjndhcjaaKLe
import Derived.Test.YtpdcmehjndhcjaaKQ
namespace Go.Proofs.Ytpdcmehjndhcjaa
open Go.RowKit Lg Nl Go.Maps
set_option linter.unusedVariables false
set_option linter.unusedSimpArgs false

theorem lev_ring {l : List Nd} (hk : Ok l) {g : Nat → Int} (hg : Lev l g) {p : List Nat} (hp : Ring l p) : False := by
  obtain ⟨f, hf, _⟩ := levels_some hk hg
  rw [hp.none hk] at hf
  cases hf
def gAt (g : List Int) (i : Nat) : Int := g.getD i 0
def levB (l : List Nd) (g : List Int) : Bool :=
  (List.range l.length).all fun i => decide (0 ≤ gAt g i) && (hgs (ndAt l i)).all (fun h => decide (gAt g h + 1 ≤ gAt g i)) && (decide (gAt g i = 0) || (hgs (ndAt l i)).any (fun h => decide (gAt g i = gAt g h + 1)))
theorem levB_lev {l : List Nd} {g : List Int} (h : levB l g = true) : Lev l (gAt g) := by
  unfold levB at h
  rw [List.all_eq_true] at h
  have key : ∀ i, i < l.length → 0 ≤ gAt g i ∧ (∀ q ∈ hgs (ndAt l i), gAt g q + 1 ≤ gAt g i) ∧ (gAt g i = 0 ∨ ∃ q ∈ hgs (ndAt l i), gAt g i = gAt g q + 1) := fun i hi => by
    have := h i (List.mem_range.2 hi)
    simp only [Bool.and_eq_true, Bool.or_eq_true, decide_eq_true_eq, List.all_eq_true, List.any_eq_true] at this
    exact ⟨this.1.1, this.1.2, this.2⟩
  exact ⟨fun i hi => (key i hi).1, fun i hi => (key i hi).2.1, fun i hi => (key i hi).2.2⟩
/-- a row of nodes that a call owns -/
theorem own_nds {w : World} {B : Nat} {N : Nat → Prop} {v : Value} {l : List Nd} {xs : List Value} (ho : w.ownsRow B 39 8 v l.length xs) (hn : NcAt w N l xs) : NdsAt w v l := by
  rcases ho.2 with ⟨rfl, h0⟩ | ⟨g, cap, cur, rfl, hg, hh, hc, _, hz, ht⟩
  · exact ⟨none, 0, by rw [h0], by omega, Or.inl (List.eq_nil_of_length_eq_zero h0)⟩
  · refine ⟨_, cap, rfl, hc, Or.inr ⟨g, 0, rfl, hLt hh, fun i hi => ?_⟩⟩
    obtain ⟨vi, a, b⟩ := hn.at_ i hi
    refine ⟨vi, a.ints, fun j u hu => ?_⟩
    have hx := b j u hu
    rw [Lib.cell_of_heap hh, Nat.zero_add]
    rw [← ht, List.getElem?_take] at hx
    split at hx
    · simpa using hx
    · cases hx
def nNot (k : Int) : Nd := ⟨3, 7, 1, [k], [], 0, 0, 0⟩
def nIn1 : Nd := ⟨2, 0, 1, [], [], 0, 0, 0⟩
def awA : List Nd := [nNot 1, nIn1, nNot 0]
def awB : List Nd := [nNot 1, nNot 0]
theorem awA_may : mayN awA [1, 2] 2 = true := by decide +kernel
theorem awB_may : mayN awB [] 0 = true := by decide +kernel
theorem awA_lev : Lev awA (gAt [1, 0, 2]) := levB_lev (by decide +kernel)
theorem awB_ring : Ring awB [0, 1] := by
  refine ⟨by decide, by decide, by decide, fun j a b ha hb => ?_⟩
  match j, ha with
  | 0, ha => simp at ha hb; subst ha hb; decide +kernel
  | 1, ha => simp at ha hb; subst ha hb; decide +kernel
  | n + 2, ha => simp at ha
theorem awB_two {p : List Nat} (h : Ring awB p) : p.length = 2 := by
  have h1 := h.len
  have h2 := h.pos
  have h3 : awB.length = 2 := rfl
  rw [h3] at h1
  rcases (by omega : p.length = 1 ∨ p.length = 2) with e | e
  · exfalso
    obtain ⟨a, rfl⟩ : ∃ a, p = [a] := List.length_eq_one_iff.1 e
    have ha := h.lt a (by simp)
    have hg := h.hg 0 a a (by simp) (by simp)
    rw [h3] at ha
    rcases (by omega : a = 0 ∨ a = 1) with rfl | rfl
    · exact absurd hg (by decide +kernel)
    · exact absurd hg (by decide +kernel)
  · exact e
set_option maxHeartbeats 1000000 in
theorem not_c (k : Int) (w : World) : Calls Try.prog 15 #[.int .i64 k] w fun e w' => ∃ g, e = .returned (.agg #[.int .i64 3, .int .i64 7, .int .i64 1, .slice (some ⟨g, 0, none⟩) 1 1, .string (S []), .int .i64 0, .int .i64 0, .int .i64 0]) ∧ w.heap.size ≤ g ∧ g < w'.heap.size ∧ w'.cell? ⟨g, 0, none⟩ = some (.int .i64 k) ∧ Below w.heap.size w w' := by
  go_enter Try.func15, Try.ntmps15
  go_wp2
  refine bodyPost_ret (v := .agg #[.int .i64 3, .int .i64 7, .int .i64 1, .slice (some ⟨w.heap.size + 1, 0, none⟩) 1 1, .string (S []), .int .i64 0, .int .i64 0, .int .i64 0]) (by simp [results, Try.results15, go_sem, S]) rfl ?_
  exact ⟨w.heap.size + 1, rfl, by omega, by simp, by rw [Lib.cell_of_heap (alAt (by simp))]; rfl, belA (belA (Below.refl _ _) _) _⟩
theorem ints_nil (w : World) : IntsAt w (.slice none 0 0) [] := ⟨none, 0, rfl, Nat.le_refl _, Or.inl rfl⟩
theorem fitsA : Fits awA [1, 2] := ⟨by decide, by decide, by decide, by decide⟩
theorem fitsB : Fits awB [] := ⟨by decide, by decide, by decide, by decide⟩
theorem awA_run (vN vT : Value) (W : World) (hN : NdsAt W vN awA) (hT : IntsAt W vT [1, 2]) :
    Calls Try.prog 8 #[.agg #[vN, vT, .int .i64 2]] W fun e w' => ∃ T, e = .returned (.tuple #[.slice (some ⟨T, 0, none⟩) 3 3, .int .i64 0]) ∧ W.heap.size ≤ T ∧ T < w'.heap.size ∧ w'.cell? ⟨T, 0, none⟩ = some (.int .i64 1) ∧ w'.cell? ⟨T, 1, none⟩ = some (.int .i64 0) ∧ w'.cell? ⟨T, 2, none⟩ = some (.int .i64 2) ∧ Below W.heap.size W w' := by
  refine (lRun_c awA [1, 2] vN vT 2 W hN hT fitsA).mono ?_
  rintro e w' ⟨h, hb⟩
  rw [awA_may] at h
  have hok := may_ok awA_may
  rcases h with ⟨h, _⟩ | ⟨_, ⟨p, hp⟩, _⟩ | ⟨_, lv, T, hl, hT, rfl, hr⟩
  · cases h
  · exact (lev_ring hok awA_lev hp).elim
  · have e := lev_one hok hl.out awA_lev
    have c := fun i (hi : i < awA.length) => hr.out.cell hi
    have c0 := c 0 (by decide)
    have c1 := c 1 (by decide)
    have c2 := c 2 (by decide)
    rw [e 0 (by decide)] at c0
    rw [e 1 (by decide)] at c1
    rw [e 2 (by decide)] at c2
    exact ⟨T, rfl, hT, hr.out.lt, c0, c1, c2, hb⟩
theorem awA_loop (vN vT : Value) (W : World) (hN : NdsAt W vN awA) (hT : IntsAt W vT [1, 2]) :
    Calls Try.prog 10 #[.agg #[vN, vT, .int .i64 2]] W fun e w' => e = .returned (.slice none 0 0) ∧ Below W.heap.size W w' := by
  refine (lLoop_c awA [1, 2] vN vT 2 W hN hT fitsA).mono ?_
  rintro e w' ⟨h, hb⟩
  rw [awA_may] at h
  rcases h with ⟨h, _⟩ | ⟨_, _, rfl⟩ | ⟨_, ao, p, cap, rfl, _, hp⟩
  · cases h
  · exact ⟨rfl, hb⟩
  · exact (lev_ring (may_ok awA_may) awA_lev hp.out).elim
theorem awB_run (vN : Value) (W : World) (hN : NdsAt W vN awB) :
    Calls Try.prog 8 #[.agg #[vN, .slice none 0 0, .int .i64 0]] W fun e w' => e = .returned (.tuple #[.slice none 0 0, .int .i64 110]) ∧ Below W.heap.size W w' := by
  refine (lRun_c awB [] vN _ 0 W hN (ints_nil _) fitsB).mono ?_
  rintro e w' ⟨h, hb⟩
  rw [awB_may] at h
  rcases h with ⟨h, _⟩ | ⟨_, _, rfl⟩ | ⟨_, lv, T, hl, _, _, _⟩
  · cases h
  · exact ⟨rfl, hb⟩
  · exact (lev_ring (may_ok awB_may) hl.out awB_ring).elim
theorem awB_loop (vN : Value) (W : World) (hN : NdsAt W vN awB) :
    Calls Try.prog 10 #[.agg #[vN, .slice none 0 0, .int .i64 0]] W fun e w' => (∃ ao cap, e = .returned (.slice ao 2 cap)) ∧ Below W.heap.size W w' := by
  refine (lLoop_c awB [] vN _ 0 W hN (ints_nil _) fitsB).mono ?_
  rintro e w' ⟨h, hb⟩
  rw [awB_may] at h
  rcases h with ⟨h, _⟩ | ⟨_, ⟨lv, hl⟩, _⟩ | ⟨_, ao, p, cap, rfl, _, hp⟩
  · cases h
  · exact (lev_ring (may_ok awB_may) hl awB_ring).elim
  · rw [awB_two hp.out]; exact ⟨⟨ao, cap, rfl⟩, hb⟩
def anyB : Nat → Prop := fun _ => True
theorem ints_one {w : World} {g : Nat} {z : Int} (hg : g < w.heap.size) (hc : w.cell? ⟨g, 0, none⟩ = some (.int .i64 z)) : IntsN w anyB (.slice (some ⟨g, 0, none⟩) 1 1) [z] := by
  refine ⟨_, 1, rfl, Nat.le_refl _, Or.inr ⟨g, 0, rfl, trivial, hg, fun i hi => ?_⟩⟩
  have : i = 0 := by simp at hi; exact hi
  subst this
  exact hc
theorem ints_none (w : World) : IntsN w anyB (.slice none 0 0) [] := ⟨none, 0, rfl, Nat.le_refl _, Or.inl rfl⟩
theorem awA_at {wA wB : World} {gA gB : Nat} (h1 : gA < wA.heap.size) (c1 : wA.cell? ⟨gA, 0, none⟩ = some (.int .i64 1)) (hb : Below wA.heap.size wA wB) (h2 : gB < wB.heap.size) (c2 : wB.cell? ⟨gB, 0, none⟩ = some (.int .i64 0)) :
    NdsAt (wB.alloc (.cells (ndC (nNot 1) (.slice (some ⟨gA, 0, none⟩) 1 1) ++ (ndC nIn1 (.slice none 0 0) ++ (ndC (nNot 0) (.slice (some ⟨gB, 0, none⟩) 1 1) ++ []))).toArray 39)) (.slice (some ⟨wB.heap.size, 0, none⟩) 3 3) awA := by
  have h1' : gA < wB.heap.size := Nat.lt_of_lt_of_le h1 hb.size
  have ho := World.ownsRow_lit (base := 0) (e := 39) (size := 8) wB (ndC (nNot 1) (.slice (some ⟨gA, 0, none⟩) 1 1) ++ (ndC nIn1 (.slice none 0 0) ++ (ndC (nNot 0) (.slice (some ⟨gB, 0, none⟩) 1 1) ++ []))).toArray 3 (Nat.zero_le _) (by decide) rfl
  have k : KeepN anyB wB (wB.alloc (.cells (ndC (nNot 1) (.slice (some ⟨gA, 0, none⟩) 1 1) ++ (ndC nIn1 (.slice none 0 0) ++ (ndC (nNot 0) (.slice (some ⟨gB, 0, none⟩) 1 1) ++ []))).toArray 39)) := ⟨by simp, fun k hk _ => alOld hk⟩
  exact own_nds (N := anyB) ho ((NcAt.cons (x := nNot 1) (ints_one h1' ((hb.cell (p := ⟨gA, 0, none⟩) h1).trans c1)) (NcAt.cons (x := nIn1) (ints_none _) (NcAt.cons (x := nNot 0) (ints_one h2 c2) NcAt.nil))).keep k)
theorem awB_at {wA wB : World} {gA gB : Nat} (h1 : gA < wA.heap.size) (c1 : wA.cell? ⟨gA, 0, none⟩ = some (.int .i64 1)) (hb : Below wA.heap.size wA wB) (h2 : gB < wB.heap.size) (c2 : wB.cell? ⟨gB, 0, none⟩ = some (.int .i64 0)) :
    NdsAt (wB.alloc (.cells (ndC (nNot 1) (.slice (some ⟨gA, 0, none⟩) 1 1) ++ (ndC (nNot 0) (.slice (some ⟨gB, 0, none⟩) 1 1) ++ [])).toArray 39)) (.slice (some ⟨wB.heap.size, 0, none⟩) 2 2) awB := by
  have h1' : gA < wB.heap.size := Nat.lt_of_lt_of_le h1 hb.size
  have ho := World.ownsRow_lit (base := 0) (e := 39) (size := 8) wB (ndC (nNot 1) (.slice (some ⟨gA, 0, none⟩) 1 1) ++ (ndC (nNot 0) (.slice (some ⟨gB, 0, none⟩) 1 1) ++ [])).toArray 2 (Nat.zero_le _) (by decide) rfl
  have k : KeepN anyB wB (wB.alloc (.cells (ndC (nNot 1) (.slice (some ⟨gA, 0, none⟩) 1 1) ++ (ndC (nNot 0) (.slice (some ⟨gB, 0, none⟩) 1 1) ++ [])).toArray 39)) := ⟨by simp, fun k hk _ => alOld hk⟩
  exact own_nds (N := anyB) ho ((NcAt.cons (x := nNot 1) (ints_one h1' ((hb.cell (p := ⟨gA, 0, none⟩) h1).trans c1)) (NcAt.cons (x := nNot 0) (ints_one h2 c2) NcAt.nil)).keep k)
theorem gen_calls {P : Program} {f : Nat} {args : Array Value} {W : World} {Q : Ending → World → Prop} (p : World → Prop) (h : p W) (k : ∀ W', p W' → Calls P f args W' Q) : Calls P f args W Q := k W h
theorem ints_two' (w : World) (a b : Int) {n : Nat} (hn : w.heap.size = n) : IntsAt (w.alloc (.cells #[.int .i64 a, .int .i64 b] 3)) (.slice (some ⟨n, 0, none⟩) 2 2) [a, b] := by
  subst hn
  refine ⟨_, 2, rfl, Nat.le_refl _, Or.inr ⟨w.heap.size, 0, rfl, by simp, fun i hi => ?_⟩⟩
  have h0 : i = 0 ∨ i = 1 := by simp at hi; omega
  rcases h0 with rfl | rfl <;> (rw [Lib.cell_of_heap (alAt rfl)]; rfl)
set_option maxRecDepth 100000 in
set_option maxHeartbeats 4000000 in
theorem awake11 (w : World) : Calls Try.prog 7 #[] w fun e w' => e = .returned (.bool true) ∧ Below w.heap.size w w' := by
  go_enter Try.func7, Try.ntmps7
  go_wp2_with (first
    | (go_at_call 15; have hx := hA3; refine (not_c _ _).mono ?_; rintro e wB ⟨gB, rfl, hB1, hB2, hB3, hB4⟩)
    | (go_at_call 15; refine (not_c _ _).mono ?_; rintro e wA ⟨gA, rfl, hA1, hA2, hA3, hA4⟩))
  refine gen_calls (fun W => NdsAt W (.slice (some ⟨wB.heap.size, 0, none⟩) 3 3) awA ∧ IntsAt W (.slice (some ⟨wB.heap.size + 1, 0, none⟩) 2 2) [1, 2] ∧ W.heap[wB.heap.size + 1 + 1]? = some (.cells #[.slice (some ⟨wB.heap.size, 0, none⟩) 3 3, .slice (some ⟨wB.heap.size + 1, 0, none⟩) 2 2, .int .i64 2] 25 (0, 0)) ∧ Below w.heap.size w W) ⟨(awA_at hA2 hA3 hB4 hB2 hB3).below (belA (belA (Below.refl _ _) _) _), (ints_two' _ 1 2 (by simp)).below (belA (Below.refl _ _) _), alAt (by simp), belA (belA (belA (bel hA4 hB4) _) _) _⟩ ?_
  rintro W1 ⟨hN1, hT1, hX1, hB1'⟩
  have HN1 : Hid (NdsAt W1 (.slice (some ⟨wB.heap.size, 0, none⟩) 3 3) awA) := hN1
  have HT1 : Hid (IntsAt W1 (.slice (some ⟨wB.heap.size + 1, 0, none⟩) 2 2) [1, 2]) := hT1
  have HX1 : Hid (W1.heap[wB.heap.size + 1 + 1]? = some (.cells #[.slice (some ⟨wB.heap.size, 0, none⟩) 3 3, .slice (some ⟨wB.heap.size + 1, 0, none⟩) 2 2, .int .i64 2] 25 (0, 0))) := hX1
  have HB1 : Hid (Below w.heap.size w W1) := hB1'
  clear hN1 hT1 hX1 hB1' hA1 hA2 hA3 hA4 hB1 hB2 hB3 hB4
  generalize wB.heap.size + 1 + 1 = X1 at HX1 ⊢
  generalize wB.heap.size + 1 = X2 at HX1 HT1 ⊢
  generalize wB.heap.size = X3 at HX1 HN1 ⊢
  clear hx
  refine (awA_run _ _ W1 HN1.out HT1.out).mono ?_
  rintro e w2 ⟨T, rfl, hT1, hT2, t0, t1, t2, hb2⟩
  have HB2 : Hid (Below W1.heap.size W1 w2) := hb2
  go_wp2_with (first
    | (go_at_call 15; have hx := hC3; refine (not_c _ _).mono ?_; rintro e wB ⟨gB, rfl, hD1, hD2, hD3, hD4⟩)
    | (go_at_call 15; refine (not_c _ _).mono ?_; rintro e wA ⟨gA, rfl, hC1, hC2, hC3, hC4⟩))
  refine gen_calls (fun W => NdsAt W (.slice (some ⟨wB.heap.size, 0, none⟩) 2 2) awB ∧ W.heap[wB.heap.size + 1]? = some (.cells #[.slice (some ⟨wB.heap.size, 0, none⟩) 2 2, .slice none 0 0, .int .i64 0] 25 (0, 0)) ∧ Below w2.heap.size w2 W) ⟨(awB_at hC2 hC3 hD4 hD2 hD3).below (belA (Below.refl _ _) _), alAt (by simp), belA (belA (bel hC4 hD4) _) _⟩ ?_
  rintro W3 ⟨hN3, hX3, hB3'⟩
  have HN3 : Hid (NdsAt W3 (.slice (some ⟨wB.heap.size, 0, none⟩) 2 2) awB) := hN3
  have HX3 : Hid (W3.heap[wB.heap.size + 1]? = some (.cells #[.slice (some ⟨wB.heap.size, 0, none⟩) 2 2, .slice none 0 0, .int .i64 0] 25 (0, 0))) := hX3
  have HB3 : Hid (Below w2.heap.size w2 W3) := hB3'
  have HT0 : Hid (W3.cell? ⟨T, 0, none⟩ = some (.int .i64 1) ∧ W3.cell? ⟨T, 1, none⟩ = some (.int .i64 0) ∧ W3.cell? ⟨T, 2, none⟩ = some (.int .i64 2) ∧ T < W3.heap.size) := ⟨(hB3'.cell (p := ⟨T, 0, none⟩) hT2).trans t0, (hB3'.cell (p := ⟨T, 1, none⟩) hT2).trans t1, (hB3'.cell (p := ⟨T, 2, none⟩) hT2).trans t2, Nat.lt_of_lt_of_le hT2 hB3'.size⟩
  have HW13 : Hid (Below W1.heap.size W1 W3) := bel hb2 hB3'
  clear hN3 hX3 hB3' hC1 hC2 hC3 hC4 hD1 hD2 hD3 hD4 t0 t1 t2 hT1 hT2 hb2 hx
  generalize wB.heap.size + 1 = Y1 at HX3 ⊢
  generalize wB.heap.size = Y2 at HX3 HN3 ⊢
  refine (awB_run _ W3 HN3.out).mono ?_
  rintro e w4 ⟨rfl, hb4⟩
  have hx1 : w4.heap[X1]? = _ := ((hb4.block X1 (Nat.lt_of_lt_of_le (hLt HX1.out) HW13.out.size)).trans (HW13.out.block X1 (hLt HX1.out))).trans HX1.out
  have hy1 : w4.heap[Y1]? = _ := (hb4.block Y1 (hLt HX3.out)).trans HX3.out
  have t0 := (hb4.cell (p := ⟨T, 0, none⟩) HT0.out.2.2.2).trans HT0.out.1
  have t1 := (hb4.cell (p := ⟨T, 1, none⟩) HT0.out.2.2.2).trans HT0.out.2.1
  have t2 := (hb4.cell (p := ⟨T, 2, none⟩) HT0.out.2.2.2).trans HT0.out.2.2.1
  have hTl : T < w4.heap.size := Nat.lt_of_lt_of_le HT0.out.2.2.2 hb4.size
  obtain ⟨a0, a1, a2⟩ := cells3n hx1
  obtain ⟨b0, b1, b2⟩ := cells3n hy1
  have lX := hLt hx1
  have lY := hLt hy1
  have HH4 : Hid (w4.heap[X1]? = some (.cells #[.slice (some ⟨X3, 0, none⟩) 3 3, .slice (some ⟨X2, 0, none⟩) 2 2, .int .i64 2] 25 (0, 0))) := hx1
  have HLB : Hid (Calls Try.prog 10 #[.agg #[.slice (some ⟨Y2, 0, none⟩) 2 2, .slice none 0 0, .int .i64 0]] w4 fun e w' => (∃ ao cap, e = .returned (.slice ao 2 cap)) ∧ Below w4.heap.size w4 w') := awB_loop _ _ (HN3.out.below hb4)
  have HLA : Hid (∀ W, Below W1.heap.size W1 W → Calls Try.prog 10 #[.agg #[.slice (some ⟨X3, 0, none⟩) 3 3, .slice (some ⟨X2, 0, none⟩) 2 2, .int .i64 2]] W fun e w' => e = .returned (.slice none 0 0) ∧ Below W.heap.size W w') := fun W hW => awA_loop _ _ _ (HN1.out.below hW) (HT1.out.below hW)
  have HB14 : Hid (Below W1.heap.size W1 w4) := bel HW13.out hb4
  clear hx1 hy1 hb4
  go_wp2_with (first
    | (go_at_call 10; have hx := hL5; refine (HLA.out _ (bel HB14.out hb5)).mono ?_; rintro e w6 ⟨rfl, hb6⟩)
    | (go_at_call 10; refine HLB.out.mono ?_; rintro e w5 ⟨⟨ao5, cp5, rfl⟩, hb5⟩; have hL5 := True.intro; obtain ⟨a0, a1, a2⟩ := cells3n ((hb5.block X1 lX).trans HH4.out); have lX5 := Nat.lt_of_lt_of_le lX hb5.size))
  go_ret
  exact ⟨rfl, bel (bel (bel HB1.out HB14.out) hb5) hb6⟩
end Go.Proofs.Ytpdcmehjndhcjaa
