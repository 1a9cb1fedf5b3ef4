/- LevelJoins, walked, over what Made tells; and two netlists side by side, plain. -/
import Derived.Test.YtpdcmehjndhcjaaKLm
import Derived.Test.YtpdcmehjndhcjaaKLc
import Derived.Deep.Cut
import Derived.BigRegion
namespace Go.Proofs.Ytpdcmehjndhcjaa
open Go.RowKit Lg Nl Go.Maps
set_option linter.unusedVariables false
set_option linter.unusedSimpArgs false

def shI (n : Nat) (ins : List Int) : List Int := ins.map fun z => (n : Int) + z
def shN (n : Nat) (x : Nd) : Nd := { x with ins := shI n x.ins }
def jnL (a b : List Nd) : List Nd := a ++ b.map (shN a.length)
theorem jn_len (a b : List Nd) : (jnL a b).length = a.length + b.length := by simp [jnL]
theorem jn_lo {a b : List Nd} {i : Nat} (h : i < a.length) : ndAt (jnL a b) i = ndAt a i := by
  unfold ndAt jnL; rw [List.getD_eq_getElem?_getD, List.getD_eq_getElem?_getD, List.getElem?_append_left h]
theorem jn_hi {a b : List Nd} {i : Nat} (h : i < b.length) : ndAt (jnL a b) (a.length + i) = shN a.length (ndAt b i) := by
  unfold ndAt jnL
  rw [List.getD_eq_getElem?_getD, List.getD_eq_getElem?_getD, List.getElem?_append_right (by omega), Nat.add_sub_cancel_left, List.getElem?_map, List.getElem?_eq_getElem h]; rfl
theorem hang_sh (n : Nat) (x : Nd) : hangL (shN n x) = shI n (hangL x) := by
  unfold hangL shN shI
  simp only
  split
  · rfl
  · split
    · rw [List.map_take]
    · rfl
theorem ws_lo {a b : List Nd} {ins : List Int} (h : ins.all (inB a.length) = true) : wsOf (jnL a b) ins = wsOf a ins := by
  unfold wsOf
  apply List.map_congr_left
  intro z hz
  rw [List.all_eq_true] at h
  have := h z hz
  simp [inB] at this
  unfold wdAt
  rw [jn_lo (by omega)]
theorem ws_hi {a b : List Nd} {ins : List Int} (h : ins.all (inB b.length) = true) : wsOf (jnL a b) (shI a.length ins) = wsOf b ins := by
  unfold wsOf shI
  rw [List.map_map]
  apply List.map_congr_left
  intro z hz
  rw [List.all_eq_true] at h
  have := h z hz
  simp [inB] at this
  show wdAt (jnL a b) ((a.length : Int) + z) = wdAt b z
  unfold wdAt
  rw [show ((a.length : Int) + z).toNat = a.length + z.toNat by omega, jn_hi (by omega)]; rfl
theorem may_parts {l : List Nd} {nets : List Int} {pt : Int} (h : mayN l nets pt = true) : l.length ≤ 4096 ∧ (∀ x ∈ l, wideB x = true ∧ zeroB x = true ∧ x.ins.all (inB l.length) = true) ∧ nets.all (inB l.length) = true ∧ (∀ i, i < l.length → (ndAt l i).k = 2 → cnt nets i = 1) ∧ ∀ x ∈ l, nodeB x (wsOf l x.ins) = true := by
  unfold mayN at h
  rw [Bool.and_eq_true, Bool.and_eq_true, Bool.and_eq_true, decide_eq_true_iff, List.all_eq_true, List.all_eq_true] at h
  obtain ⟨⟨⟨⟨h1, _⟩, h2⟩, h3⟩, h4⟩ := h
  unfold portB at h3
  rw [Bool.and_eq_true, List.all_eq_true (l := List.range l.length)] at h3
  refine ⟨h1, fun x hx => ?_, h3.1, fun i hi hk => ?_, h4⟩
  · have := h2 x hx; rw [shape_parts, Bool.and_eq_true, Bool.and_eq_true] at this; exact ⟨this.1.1, this.1.2, this.2⟩
  · have := h3.2 i (List.mem_range.2 hi)
    simp [hk] at this
    exact this
theorem cnt_zero {nets : List Int} {i : Nat} (h : ∀ z ∈ nets, z ≠ (i : Int)) : cnt nets i = 0 := by
  unfold cnt; rw [List.countP_eq_zero]; intro z hz; simp [h z hz]
theorem cnt_app (a b : List Int) (i : Nat) : cnt (a ++ b) i = cnt a i + cnt b i := by simp [cnt]
theorem cnt_sh (n : Nat) (nets : List Int) (i : Nat) : cnt (shI n nets) (n + i) = cnt nets i := by
  unfold cnt shI
  rw [List.countP_map]
  apply List.countP_congr
  intro z _
  simp
theorem jn_may {a b : List Nd} {na nb : List Int} {pa pb : Int} (h1 : mayN a na pa = true) (h2 : mayN b nb pb = true) (hl : a.length + b.length ≤ 4096) : mayN (jnL a b) (na ++ shI a.length nb) (na ++ shI a.length nb).length = true := by
  obtain ⟨_, s1, n1, c1, d1⟩ := may_parts h1
  obtain ⟨_, s2, n2, c2, d2⟩ := may_parts h2
  have shIn : ∀ {ins : List Int}, ins.all (inB b.length) = true → (shI a.length ins).all (inB (jnL a b).length) = true := fun {ins} h => by
    rw [List.all_eq_true] at h ⊢
    intro z hz
    obtain ⟨y, hy, rfl⟩ := List.mem_map.1 hz
    have := h y hy
    rw [jn_len]
    simp [inB] at this ⊢
    omega
  refine may_yes ⟨by rw [jn_len]; exact hl, rfl⟩ ?_ ?_ (fun i hi => ?_)
  · rw [List.all_eq_true]
    intro x hx
    unfold jnL at hx
    rcases List.mem_append.1 hx with hx | hx
    · obtain ⟨w, z, ii⟩ := s1 x hx
      rw [shape_parts, w, z, inB_mono (by rw [jn_len]; omega) ii]; rfl
    · obtain ⟨y, hy, rfl⟩ := List.mem_map.1 hx
      obtain ⟨w, z, ii⟩ := s2 y hy
      have e1 : wideB (shN a.length y) = wideB y := rfl
      have e2 : zeroB (shN a.length y) = zeroB y := rfl
      rw [shape_parts, e1, e2, w, z]
      show (true && true && (shI a.length y.ins).all (inB (jnL a b).length)) = true
      rw [shIn ii]; rfl
  · rw [List.all_append, Bool.and_eq_true]
    exact ⟨inB_mono (by rw [jn_len]; omega) n1, shIn n2⟩
  · have hi' : i < a.length + b.length := by rw [jn_len] at hi; exact hi
    have e : (jnL a b)[i] = ndAt (jnL a b) i := (ndAt_eq hi).symm
    rw [e]
    rcases Nat.lt_or_ge i a.length with hlt | hge
    · rw [jn_lo hlt]
      have hm := ndAt_mem hlt
      refine ⟨?_, fun hk => ?_⟩
      · rw [ws_lo (s1 _ hm).2.2]; exact d1 _ hm
      · rw [cnt_app, c1 i hlt hk, cnt_zero]
        intro z hz
        obtain ⟨y, hy, rfl⟩ := List.mem_map.1 hz
        rw [List.all_eq_true] at n2
        have := n2 y hy
        simp [inB] at this
        omega
    · obtain ⟨j, rfl⟩ : ∃ j, i = a.length + j := ⟨i - a.length, by omega⟩
      have hj : j < b.length := by omega
      rw [jn_hi hj]
      have hm := ndAt_mem hj
      refine ⟨?_, fun hk => ?_⟩
      · show nodeB (shN a.length (ndAt b j)) (wsOf (jnL a b) (shI a.length (ndAt b j).ins)) = true
        rw [ws_hi (s2 _ hm).2.2]; exact d2 _ hm
      · rw [cnt_app, cnt_sh, c2 j hj hk, cnt_zero]
        intro z hz
        rw [List.all_eq_true] at n1
        have := n1 z hz
        simp [inB] at this
        omega
theorem jn_lev {a b : List Nd} (ka : Ok a) (kb : Ok b) {p q : Nat → Int} (h1 : Lev a p) (h2 : Lev b q) : Lev (jnL a b) (fun i => if i < a.length then p i else q (i - a.length)) := by
  have hh : ∀ j, j < b.length → hgs (shN a.length (ndAt b j)) = (hgs (ndAt b j)).map (a.length + ·) := fun j hj => by
    unfold hgs
    rw [hang_sh]
    unfold shI
    rw [List.map_map, List.map_map]
    apply List.map_congr_left
    intro z hz
    have := hang_in kb hj hz
    simp [inB] at this
    show ((a.length : Int) + z).toNat = a.length + z.toNat
    omega
  refine ⟨fun i hi => ?_, fun i hi x hx => ?_, fun i hi => ?_⟩
  · rw [jn_len] at hi
    split
    · exact h1.lo i (by assumption)
    · exact h2.lo _ (by omega)
  · rw [jn_len] at hi
    by_cases hlt : i < a.length
    · rw [jn_lo hlt] at hx
      have := hgs_lt ka hlt hx
      simp only [if_pos hlt, if_pos this]
      exact h1.up i hlt x hx
    · obtain ⟨j, rfl⟩ : ∃ j, i = a.length + j := ⟨i - a.length, by omega⟩
      have hj : j < b.length := by omega
      rw [jn_hi hj, hh j hj] at hx
      obtain ⟨y, hy, rfl⟩ := List.mem_map.1 hx
      simp only [if_neg (show ¬ a.length + y < a.length by omega), if_neg hlt, Nat.add_sub_cancel_left]
      exact h2.up j hj y hy
  · rw [jn_len] at hi
    by_cases hlt : i < a.length
    · simp only [if_pos hlt]
      rcases h1.ti i hlt with e | ⟨x, hx, e⟩
      · exact Or.inl e
      · right
        have := hgs_lt ka hlt hx
        exact ⟨x, by rw [jn_lo hlt]; exact hx, by rw [if_pos this]; exact e⟩
    · obtain ⟨j, rfl⟩ : ∃ j, i = a.length + j := ⟨i - a.length, by omega⟩
      have hj : j < b.length := by omega
      simp only [if_neg hlt, Nat.add_sub_cancel_left]
      rcases h2.ti j hj with e | ⟨x, hx, e⟩
      · exact Or.inl e
      · right
        refine ⟨a.length + x, by rw [jn_hi hj, hh j hj]; exact List.mem_map.2 ⟨x, hx, rfl⟩, ?_⟩
        rw [if_neg (by omega), Nat.add_sub_cancel_left]; exact e

theorem NcAt.append {w : World} {N : Nat → Prop} {l m : List Nd} {xs ys : List Value} (h : NcAt w N l xs) (k : NcAt w N m ys) : NcAt w N (l ++ m) (xs ++ ys) := by
  induction h with
  | nil => simpa using k
  | cons hi _ ih => rw [List.append_assoc]; exact .cons hi ih
theorem ndC_one (x : Nd) {vi : Value} (h : ∃ ao n c, vi = .slice ao n c) : ∀ u ∈ ndC x vi, u.oneCell' = true := by
  obtain ⟨ao, n, c, rfl⟩ := h
  intro u hu
  simp [ndC] at hu
  rcases hu with rfl | rfl | rfl | rfl | rfl | rfl | rfl | rfl <;> rfl
theorem IntsAt.n {w : World} {v : Value} {l : List Int} (h : IntsAt w v l) : IntsN w (fun q => q < w.heap.size) v l := by
  obtain ⟨ao, cap, rfl, hc, h⟩ := h
  refine ⟨ao, cap, rfl, hc, ?_⟩
  rcases h with h | ⟨g, o, rfl, hg, h⟩
  · exact Or.inl h
  · exact Or.inr ⟨g, o, rfl, hg, hg, h⟩
theorem NdsAt.flat {w : World} {g o n cap : Nat} {l : List Nd} (h : NdsAt w (.slice (some ⟨g, o, none⟩) n cap) l) : ∀ k, k ≤ l.length → ∃ xs, xs.length = k * 8 ∧ (∀ (j : Nat) (u : Value), xs[j]? = some u → w.cell? ⟨g, o + j, none⟩ = some u) ∧ (∀ u ∈ xs, u.oneCell' = true) ∧ NcAt w (fun q => q < w.heap.size) (l.take k) xs
  | 0, _ => ⟨[], rfl, by simp, by simp, by rw [List.take_zero]; exact .nil⟩
  | k + 1, hk => by
    obtain ⟨xs, h1, h2, h3, h4⟩ := h.flat k (by omega)
    obtain ⟨ao, c, hv, _, hh⟩ := id h
    injection hv with e1 e2 e3
    subst e1
    rcases hh with hh | ⟨g', o', e, hg, hh⟩
    · subst hh; simp at hk
    · injection e with e
      injection e with e1 e2
      subst e1 e2
      obtain ⟨vi, hI, hc⟩ := hh k (by omega)
      obtain ⟨ao', c', hvi, _⟩ := id hI
      refine ⟨xs ++ ndC l[k] vi, by rw [List.length_append, h1]; show k * 8 + 8 = _; omega, fun j u hj => ?_, fun u hu => ?_, ?_⟩
      · by_cases hl : j < xs.length
        · rw [List.getElem?_append_left hl] at hj; exact h2 j u hj
        · rw [List.getElem?_append_right (by omega)] at hj
          have := hc (j - xs.length) u hj
          rw [show o + k * 8 + (j - xs.length) = o + j by omega] at this
          exact this
      · rcases List.mem_append.1 hu with hu | hu
        · exact h3 u hu
        · exact ndC_one _ ⟨ao', _, c', hvi⟩ u hu
      · rw [List.take_succ_eq_append_getElem (by omega)]
        exact h4.snoc hI.n
def Na (b : Nat) (vN vT : Value) : Nat → Prop := fun g => g ≠ b ∧ vN.ownBlock ≠ some g ∧ vT.ownBlock ≠ some g
/-- the netlist that is joined -/
structure Al (b : Nat) (l : List Nd) (nets : List Int) (vN vT : Value) (W : World) : Prop where
  blk : W.heap[b]? = some (.cells #[vN, vT, .int .i64 0] 25 (0, 0))
  row : ∃ xs, W.ownsRow (b + 1) 39 8 vN l.length xs ∧ NcAt W (Na b vN vT) l xs
  nt : W.ownsRow (b + 1) 3 1 vT nets.length (iC nets)
  dj : ∀ g, vN.ownBlock = some g → vT.ownBlock ≠ some g
theorem Al.start (W : World) : Al W.heap.size [] [] (.slice none 0 0) (.slice none 0 0) (W.alloc (.cells #[.slice none 0 0, .slice none 0 0, .int .i64 0] 25)) :=
  ⟨alAt rfl, ⟨[], World.ownsRow_nil _ _ _ _, .nil⟩, World.ownsRow_nil _ _ _ _, fun g e => by cases e⟩
theorem Al.below {b : Nat} {l : List Nd} {nets : List Int} {vN vT : Value} {W W' : World} (h : Al b l nets vN vT W) (hb : Below W.heap.size W W') : Al b l nets vN vT W' := by
  obtain ⟨xs, ho, hn⟩ := h.row
  exact ⟨(hb.block b (hLt h.blk)).trans h.blk, ⟨xs, own_below ho hb, hn.keep ⟨hb.size, fun k hk _ => hb.block k hk⟩⟩, own_below h.nt hb, h.dj⟩
theorem Al.nds {b : Nat} {l : List Nd} {nets : List Int} {vN vT : Value} {W : World} (h : Al b l nets vN vT W) : NdsAt W vN l := by
  obtain ⟨xs, ho, hn⟩ := h.row
  exact own_nds ho hn
/-- nodes are appended: w2 the world that is appended in, w7 the one behind it -/
theorem Al.addN {b n : Nat} {l m : List Nd} {nets : List Int} {vN vT v7 : Value} {w w2 w7 : World} {xs ys : List Value} (h : Al b l nets vN vT w) (hb2 : Below w.heap.size w w2) (hx : w.ownsRow (b + 1) 39 8 vN l.length xs ∧ NcAt w (Na b vN vT) l xs) (hn : n = l.length + m.length) (ho : w7.ownsRow (b + 1) 39 8 v7 n (xs ++ ys)) (hg : w2.grownBy w7 vN.ownBlock)
    (ha : v7.ownBlock = vN.ownBlock ∨ v7.ownBlock = some w2.heap.size) (hc : NcAt w2 (Na b vN vT) m ys) : Al b (l ++ m) nets v7 vT (w7.setCell ⟨b, 0, none⟩ v7) ∧ Below b w (w7.setCell ⟨b, 0, none⟩ v7) := by
  have hbl := hLt h.blk
  have hsz := hb2.size
  have hNb : vN.ownBlock ≠ some b := fun e => by have := own_ge hx.1 b e; omega
  have hTb : vT.ownBlock ≠ some b := fun e => by have := own_ge h.nt b e; omega
  have hTl : ∀ g, vT.ownBlock = some g → g < w.heap.size := fun g e => (World.ownsRow.lt h.nt g e).2
  have hb7 : w7.heap[b]? = some (.cells #[vN, vT, .int .i64 0] 25 (0, 0)) := (hg.block b (by omega) (fun e => hNb e.symm)).trans ((hb2.block b hbl).trans h.blk)
  have h7b : v7.ownBlock ≠ some b := fun e => by have := own_ge ho b e; omega
  have hK : KeepN (fun g => g ≠ b ∧ vN.ownBlock ≠ some g) w2 (w7.setCell ⟨b, 0, none⟩ v7) := ⟨by have := hg.size; simp [World.setCell]; omega, fun k hk hN => by
    rw [Below.heap_setCell _ _ _ _ hN.1]; exact hg.block k hk (fun e => hN.2 e.symm)⟩
  have hM : ∀ g, g < w2.heap.size → Na b vN vT g → Na b v7 vT g := fun g hgl hN => ⟨hN.1, fun e => by
    rcases ha with ha | ha
    · rw [ha] at e; exact hN.2.1 e
    · rw [ha] at e; injection e with e; omega, hN.2.2⟩
  have up : ∀ {q : List Nd} {zs : List Value}, NcAt w2 (Na b vN vT) q zs → NcAt (w7.setCell ⟨b, 0, none⟩ v7) (Na b v7 vT) q zs := fun hh => by
    have h1 := hh.mono (N' := fun g => Na b vN vT g ∧ g < w2.heap.size) (fun g hg hN => ⟨hN, hg⟩)
    have h2 := h1.keep (w' := w7.setCell ⟨b, 0, none⟩ v7) ⟨hK.1, fun k hk hN => hK.2 k hk ⟨hN.1.1, hN.1.2.1⟩⟩
    exact h2.mono (fun g _ hN => hM g hN.2 hN.1)
  refine ⟨⟨hset3 hb7 _, ⟨xs ++ ys, ?_, (up (hx.2.keep ⟨hb2.size, fun k hk _ => hb2.block k hk⟩)).append (up hc)⟩, ?_, fun g e => ?_⟩, ?_⟩
  · rw [List.length_append, ← hn]; exact own_setB ho h7b
  · exact own_keep (own_below h.nt hb2) (fun g e => ⟨fun e2 => hTb (by rw [← e2]; exact e), fun e2 => h.dj g e2 e⟩) hK
  · rcases ha with ha | ha
    · rw [ha] at e; exact h.dj g e
    · rw [ha] at e; injection e with e; intro e2; have := hTl g e2; omega
  · refine (?_ : Below b w w7).setCell (Nat.le_refl _) _
    exact ⟨hg.os.trans hb2.os, hg.tape.trans hb2.tape, hg.output.trans hb2.output, Nat.le_trans hb2.size hg.size, fun k hk => (hg.block k (by omega) (fun e => by have := own_ge hx.1 k e.symm; omega)).trans (hb2.block k (by omega))⟩
/-- nets are appended -/
theorem Al.addT {b n : Nat} {l : List Nd} {nets ks : List Int} {vN vT v7 : Value} {w w2 w7 : World} (h : Al b l nets vN vT w) (hb2 : Below w.heap.size w w2) (hn : n = nets.length + ks.length) (ho : w7.ownsRow (b + 1) 3 1 v7 n (iC nets ++ iC ks)) (hg : w2.grownBy w7 vT.ownBlock)
    (ha : v7.ownBlock = vT.ownBlock ∨ v7.ownBlock = some w2.heap.size) : Al b l (nets ++ ks) vN v7 (w7.setCell ⟨b, 1, none⟩ v7) ∧ Below b w (w7.setCell ⟨b, 1, none⟩ v7) := by
  obtain ⟨xs, hx, hc⟩ := h.row
  have hbl := hLt h.blk
  have hsz := hb2.size
  have hNb : vN.ownBlock ≠ some b := fun e => by have := own_ge hx b e; omega
  have hTb : vT.ownBlock ≠ some b := fun e => by have := own_ge h.nt b e; omega
  have hNl : ∀ g, vN.ownBlock = some g → g < w.heap.size := fun g e => (World.ownsRow.lt hx g e).2
  have hb7 : w7.heap[b]? = some (.cells #[vN, vT, .int .i64 0] 25 (0, 0)) := (hg.block b (by omega) (fun e => hTb e.symm)).trans ((hb2.block b hbl).trans h.blk)
  have h7b : v7.ownBlock ≠ some b := fun e => by have := own_ge ho b e; omega
  have hK : KeepN (fun g => g ≠ b ∧ vT.ownBlock ≠ some g) w2 (w7.setCell ⟨b, 1, none⟩ v7) := ⟨by have := hg.size; simp [World.setCell]; omega, fun k hk hN => by
    rw [Below.heap_setCell _ _ _ _ hN.1]; exact hg.block k hk (fun e => hN.2 e.symm)⟩
  have hset : (w7.setCell ⟨b, 1, none⟩ v7).heap[b]? = some (.cells #[vN, v7, .int .i64 0] 25 (0, 0)) := by
    simp only [World.setCell]; rw [Array.getElem?_modify, if_pos rfl, hb7]; rfl
  refine ⟨⟨hset, ⟨xs, own_keep (own_below hx hb2) (fun g e => ⟨fun e2 => hNb (by rw [← e2]; exact e), fun e2 => h.dj g e e2⟩) hK, ?_⟩, ?_, fun g e => ?_⟩, ?_⟩
  · have h0 := hc.keep (w' := w2) ⟨hb2.size, fun k hk _ => hb2.block k hk⟩
    have h1 := h0.mono (N' := fun g => Na b vN vT g ∧ g < w2.heap.size) (fun g hg hN => ⟨hN, hg⟩)
    have h2 := h1.keep (w' := w7.setCell ⟨b, 1, none⟩ v7) ⟨hK.1, fun k hk hN => hK.2 k hk ⟨hN.1.1, hN.1.2.2⟩⟩
    exact h2.mono (fun g _ hN => ⟨hN.1.1, hN.1.2.1, fun e => by
      rcases ha with ha | ha
      · rw [ha] at e; exact hN.1.2.2 e
      · rw [ha] at e; injection e with e; have := hN.2; omega⟩)
  · rw [List.length_append, ← hn, iC_app]; exact own_setB ho h7b
  · rcases ha with ha | ha
    · rw [ha]; exact h.dj g e
    · rw [ha]; intro e2; injection e2 with e2; have := hNl g e; omega
  · refine (?_ : Below b w w7).setCell (Nat.le_refl _) _
    exact ⟨hg.os.trans hb2.os, hg.tape.trans hb2.tape, hg.output.trans hb2.output, Nat.le_trans hb2.size hg.size, fun k hk => (hg.block k (by omega) (fun e => by have := own_ge h.nt k e.symm; omega)).trans (hb2.block k (by omega))⟩
theorem own_intsN {w : World} {B n : Nat} {v : Value} {xs : List Int} (h : w.ownsRow B 3 1 v n (iC xs)) (hn : n = xs.length) : IntsN w (fun g => B ≤ g) v xs := by
  subst hn
  obtain ⟨ao, cap, rfl, hc, hh⟩ := own_ints h
  refine ⟨ao, cap, rfl, hc, ?_⟩
  rcases hh with hh | ⟨g, o, rfl, hg, hh⟩
  · exact Or.inl hh
  · exact Or.inr ⟨g, o, rfl, own_ge h g rfl, hg, hh⟩
theorem shI_take (n : Nat) (ins : List Int) {k : Nat} (h : k < ins.length) : shI n (ins.take (k + 1)) = shI n (ins.take k) ++ [(n : Int) + ins[k]] := by
  rw [List.take_succ_eq_append_getElem h]; unfold shI; rw [List.map_append]; rfl
theorem shI_len (n : Nat) (ins : List Int) : (shI n ins).length = ins.length := by simp [shI]
theorem jn_take (n : Nat) (l : List Nd) {i : Nat} (h : i < l.length) : (l.take (i + 1)).map (shN n) = (l.take i).map (shN n) ++ [shN n l[i]] := by
  rw [List.take_succ_eq_append_getElem h, List.map_append]; rfl

/-- what Made tells, in parts -/
def MadeD (w : World) (vG : Value) : Prop := ∀ W, Below w.heap.size w W → Calls Try.prog 13 #[vG] W fun e w' => ∃ l nets gN oN n nc gT oT k tc, e = .returned (.agg #[.slice (some ⟨gN, oN, none⟩) n nc, .slice (some ⟨gT, oT, none⟩) k tc, .int .i64 (k : Nat)]) ∧ 2 ≤ n ∧ n ≤ 122 ∧ k ≤ 6 ∧ Hid (n = (l : List Nd).length) ∧ Hid (k = (nets : List Int).length) ∧ Hid (NdsAt w' (.slice (some ⟨gN, oN, none⟩) n nc) l) ∧ Hid (IntsAt w' (.slice (some ⟨gT, oT, none⟩) k tc) nets) ∧ Hid (Mk l) ∧ Hid (mayN l nets k = true) ∧ Hid (Below W.heap.size W w')
theorem madeD (hMade : MadeC) (vG : Value) (m : Nat) (F : Nat → Nat → Int) (w : World) (hG : GsAt w w.heap.size vG m F) (hm : m ≤ 17592186044416) : MadeD w vG := fun W hW => by
  have hG2 : GsAt W W.heap.size vG m F := by
    have k := hG.below hW
    obtain ⟨ao, cap, rfl, k⟩ := k
    refine ⟨ao, cap, rfl, ?_⟩
    rcases k with k | ⟨g, o, rfl, hg, _, k⟩
    · exact Or.inl k
    · exact Or.inr ⟨g, o, rfl, Nat.lt_of_lt_of_le hg hW.size, Nat.le_refl _, k⟩
  refine (hMade _ m F W hG2 hm).mono ?_
  rintro e w' ⟨l, nets, vN, vT, rfl, h1, h2, h3, h4, h5, h6⟩
  have h2l := h3.out.two
  have hpos : 0 < nets.length := by
    have hc := (may_parts h5.out).2.2.2.1 0 (by omega) h3.out.in0
    have hle := cnt_le nets 0
    omega
  obtain ⟨gN, oN, nc, rfl⟩ := h1.out.some_ (by omega)
  obtain ⟨gT, oT, tc, rfl⟩ := h2.out.some_ hpos
  exact ⟨l, nets, gN, oN, l.length, nc, gT, oT, nets.length, tc, rfl, h2l, h4.out.1, h4.out.2, rfl, rfl, h1, h2, h3, h5, h6⟩
/-- what Run tells of a netlist that has levels -/
theorem runL {l : List Nd} {nets : List Int} {n : Nat} {vN vT : Value} {pt : Int} (hn : n = l.length) (hmay : mayN l nets pt = true) (hk : nets.length ≤ 1000) {f : Nat → Int} (hf : Lev l f) (W : World) (hN : NdsAt W vN l) (hT : IntsAt W vT nets) :
    Calls Try.prog 8 #[.agg #[vN, vT, .int .i64 pt]] W fun e w' => (∃ T, e = .returned (.tuple #[.slice (some ⟨T, 0, none⟩) n n, .int .i64 0]) ∧ Hid (w'.rowIs T 3 n (fun q => .int .i64 (f q)))) ∧ Below W.heap.size W w' := by
  have hok := may_ok hmay
  refine (lRun_c l nets vN vT pt W hN hT (may_fits hmay hk)).mono ?_
  rintro e w' ⟨h, hb⟩
  rw [hmay] at h
  rcases h with ⟨h, _⟩ | ⟨_, ⟨p, hp⟩, _⟩ | ⟨_, lv, T, hl, _, rfl, hr⟩
  · cases h
  · exact (lev_ring hok hf hp).elim
  · rw [← hn] at hr ⊢
    exact ⟨⟨T, rfl, hr.out.congr (fun q hq => by rw [lev_one hok hl.out hf q (by rw [← hn]; exact hq)])⟩, hb⟩
theorem hset8 {w : World} {b : Nat} {y0 y1 y2 y3 y4 y5 y6 y7 : Value} {t : TypeId} (h : w.heap[b]? = some (.cells #[y0, y1, y2, y3, y4, y5, y6, y7] t (0, 0))) (y : Value) : (w.setCell ⟨b, 3, none⟩ y).heap[b]? = some (.cells #[y0, y1, y2, y, y4, y5, y6, y7] t (0, 0)) := by
  simp only [World.setCell]; rw [Array.getElem?_modify, if_pos rfl, h]; rfl
/-- its ports are written -/
theorem Al.fin {b : Nat} {l : List Nd} {nets : List Int} {vN vT : Value} {W : World} (h : Al b l nets vN vT W) (y : Value) : (W.setCell ⟨b, 2, none⟩ y).heap[b]? = some (.cells #[vN, vT, y] 25 (0, 0)) ∧ NdsAt (W.setCell ⟨b, 2, none⟩ y) vN l ∧ IntsAt (W.setCell ⟨b, 2, none⟩ y) vT nets ∧ Below b W (W.setCell ⟨b, 2, none⟩ y) := by
  obtain ⟨xs, ho, hn⟩ := h.row
  have hNb : vN.ownBlock ≠ some b := fun e => by have := own_ge ho b e; omega
  have hTb : vT.ownBlock ≠ some b := fun e => by have := own_ge h.nt b e; omega
  refine ⟨?_, own_nds (own_setB ho hNb) (hn.keep ⟨by simp [World.setCell], fun k hk hN => Below.heap_setCell _ _ _ _ hN.1⟩), own_ints (own_setB h.nt hTb), by refine (?_ : Below b W W).setCell (Nat.le_refl _) _; exact Below.refl _ _⟩
  have := h.blk
  simp only [World.setCell]; rw [Array.getElem?_modify, if_pos rfl, this]; rfl
set_option maxRecDepth 100000 in
set_option maxHeartbeats 4000000 in
theorem LevelJoins_c (hMade : MadeC) (vA vB : Value) (mA mB : Nat) (FA FB : Nat → Nat → Int) (w : World) (hGA : GsAt w w.heap.size vA mA FA) (hGB : GsAt w w.heap.size vB mB FB) (hmA : mA ≤ 17592186044416) (hmB : mB ≤ 17592186044416) :
    Calls Try.prog 6 #[vA, vB] w fun e w' => e = .returned (.bool true) ∧ Below w.heap.size w w' := by
  obtain ⟨ga, gc, rfl, _⟩ := id hGA
  obtain ⟨ha, hc, rfl, _⟩ := id hGB
  have HA : Hid (MadeD w (.slice ga mA gc)) := madeD hMade _ mA FA w hGA hmA
  have HB : Hid (MadeD w (.slice ha mB hc)) := madeD hMade _ mB FB w hGB hmB
  clear hGA hGB hMade
  go_enter Try.func6, Try.ntmps6
  go_upto_region 4 with (first
    | (go_at_call 13; have hx := a122; refine (HB.out _ A8.out).mono ?_; rintro e w2 ⟨l2, t2, gM, oM, m, mc, gU, oU, k2, uc, rfl, b2, b122, b6, BNL, BKL, BN, BT, BMk, BMay, B8⟩)
    | (go_at_call 13; refine (HA.out _ (Below.refl _ _)).mono ?_; rintro e w1 ⟨l1, t1, gN, oN, n, nc, gT, oT, k1, tc, rfl, a2, a122, a6, ANL, AKL, AN, AT, AMk, AMay, A8⟩))
  obtain ⟨W0, hW0⟩ : ∃ W0, W0 = ((w2.alloc (.cells #[.slice (some ⟨gN, oN, none⟩) n nc, .slice (some ⟨gT, oT, none⟩) k1 tc, .int .i64 (k1 : Nat)] 25)).alloc (.cells #[.slice (some ⟨gM, oM, none⟩) m mc, .slice (some ⟨gU, oU, none⟩) k2 uc, .int .i64 (k2 : Nat)] 25)).alloc (.cells #[.slice none 0 0, .slice none 0 0, .int .i64 0] 25) := ⟨_, rfl⟩
  have hb02 : Below w2.heap.size w2 W0 := by rw [hW0]; exact belA (belA (belA (Below.refl _ _) _) _) _
  have HAl : Hid (Al (w2.heap.size + 1 + 1) [] [] (.slice none 0 0) (.slice none 0 0) W0) := by
    have h := Al.start ((w2.alloc (.cells #[.slice (some ⟨gN, oN, none⟩) n nc, .slice (some ⟨gT, oT, none⟩) k1 tc, .int .i64 (k1 : Nat)] 25)).alloc (.cells #[.slice (some ⟨gM, oM, none⟩) m mc, .slice (some ⟨gU, oU, none⟩) k2 uc, .int .i64 (k2 : Nat)] 25))
    rw [World.size_alloc, World.size_alloc] at h
    rw [hW0]; exact h
  have H5 : Hid (W0.heap[w2.heap.size]? = some (.cells #[.slice (some ⟨gN, oN, none⟩) n nc, .slice (some ⟨gT, oT, none⟩) k1 tc, .int .i64 (k1 : Nat)] 25 (0, 0))) := by
    show W0.heap[w2.heap.size]? = _
    rw [hW0, alOld (by simp; omega), alOld (by simp), alAt rfl]
  have H6 : Hid (W0.heap[w2.heap.size + 1]? = some (.cells #[.slice (some ⟨gM, oM, none⟩) m mc, .slice (some ⟨gU, oU, none⟩) k2 uc, .int .i64 (k2 : Nat)] 25 (0, 0))) := by
    show W0.heap[w2.heap.size + 1]? = _
    rw [hW0, alOld (by simp), alAt (by simp)]
  have HMem : Hid (∀ W, Below (w2.heap.size + 1 + 1) W0 W → NdsAt W (.slice (some ⟨gN, oN, none⟩) n nc) l1 ∧ IntsAt W (.slice (some ⟨gT, oT, none⟩) k1 tc) t1 ∧ NdsAt W (.slice (some ⟨gM, oM, none⟩) m mc) l2 ∧ IntsAt W (.slice (some ⟨gU, oU, none⟩) k2 uc) t2) := fun W hW => by
    have h2 : Below w2.heap.size w2 W := hb02.trans (hW.mono (by omega))
    exact ⟨AN.out.below (bel B8.out h2), AT.out.below (bel B8.out h2), BN.out.below h2, BT.out.below h2⟩
  have N1 : Hid (NdsAt W0 (.slice (some ⟨gN, oN, none⟩) n nc) l1) := AN.out.below (bel B8.out hb02)
  have N2 : Hid (NdsAt W0 (.slice (some ⟨gM, oM, none⟩) m mc) l2) := BN.out.below hb02
  have T1 : Hid (IntsAt W0 (.slice (some ⟨gT, oT, none⟩) k1 tc) t1) := AT.out.below (bel B8.out hb02)
  have T2 : Hid (IntsAt W0 (.slice (some ⟨gU, oU, none⟩) k2 uc) t2) := BT.out.below hb02
  have HW0 : Hid (Below w.heap.size w W0) := bel (bel A8.out B8.out) hb02
  obtain ⟨xs1, x1l, x1c, x1o, x1n⟩ := (AN.out.below B8.out).flat l1.length (Nat.le_refl _)
  rw [List.take_length] at x1n
  rw [← ANL.out] at x1l
  replace x1n := x1n.keep (w' := W0) ⟨hb02.size, fun k hk _ => hb02.block k hk⟩
  have hgN2 : gN < w2.heap.size := by have := (AN.out.at_ 0 (by rw [← ANL.out]; omega)).1; have := B8.out.size; omega
  have HXC : Hid (∀ (j : Nat) (u : Value), xs1[j]? = some u → W0.cell? ((⟨gN, oN, none⟩ : Addr).add j) = some u) := fun j u h => by rw [addO, hb02.cell (p := ⟨gN, oN + j, none⟩) hgN2]; exact x1c j u h
  clear x1c
  have hgN : gN < w2.heap.size := by have := (AN.out.at_ 0 (by rw [← ANL.out]; omega)).1; have := B8.out.size; omega
  have hgT : gT < w2.heap.size := by have := (AT.out.cell 0 (by rw [← AKL.out]; have := (may_parts AMay.out).2.2.2.1 0 (by rw [← ANL.out]; omega) AMk.out.in0; have := cnt_le t1 0; have := AKL.out; omega)).1; have := B8.out.size; omega
  have HWY : Hid (w.heap.size ≤ w2.heap.size) := Nat.le_trans A8.out.size B8.out.size
  rw [← hW0]
  clear hW0 hb02 AN BN AT BT A8 B8 HA HB hx
  obtain ⟨Y, hY⟩ : ∃ Y, Y = w2.heap.size := ⟨_, rfl⟩
  rw [← hY] at HAl H5 H6 hgN hgT x1n HMem HWY ⊢
  clear hY
  obtain ⟨c0, c1, c2⟩ := cells3n HAl.out.blk
  obtain ⟨d0, d1, d2⟩ := cells3n H5.out
  have lb := hLt HAl.out.blk
  have l5 := hLt H5.out
  have qf := fun k => Lib.frozen_of_heap HAl.out.blk k
  have HX1 : Hid (NcAt W0 (fun q => q < Y) l1 xs1) := x1n
  have HXO : Hid (∀ u ∈ xs1, u.oneCell' = true) := x1o
  have HXL : Hid (xs1.length = n * 8) := x1l
  obtain ⟨i0, hi0, hz0, hz1, hz2⟩ := infoNd
  obtain ⟨i3, hi3, hy0, hy1, hy2⟩ := infoInt
  clear x1o x1n x1l hgN2
  go_upto_region 5 with (first
    | (at_builtin; refine wpList_append_own_at _ rfl _ _ 22 rfl (Y + 1 + 1 + 1) 39 i0 _ 8 88 Try.underlying22 hi0 hz0 hz1 hz2 rfl (by decide) (.slice none 0 0) 0 [] rfl (World.ownsRow_nil _ _ _ _) ⟨gN, oN, none⟩ n nc xs1 rfl HXL.out HXC.out HXO.out (by unfold maxLen; omega) (by omega) (by omega) ?_; intro v7 w7 hown7 hgrow7 hnil7 hloc7; rw [Nat.zero_add, List.nil_append] at hown7; have sl := own_slice hown7; obtain ⟨o7, c7, rfl⟩ := sl; have f7 := (hgrow7.block (Y + 1 + 1) lb (by simp [Value.ownBlock])).trans HAl.out.blk; obtain ⟨r0, r1, r2⟩ := cells3n f7; have rf := fun k => Lib.frozen_of_heap f7 k; have rl := hLt f7))
  have A1 := HAl.out.addN (m := l1) (n := n) (ys := xs1) (Below.refl _ _) ⟨World.ownsRow_nil _ _ _ _, .nil⟩ (by rw [List.length_nil, Nat.zero_add]; exact ANL.out) hown7 hgrow7 hloc7 (HX1.out.mono (fun q _ hq => ⟨by omega, by simp [Value.ownBlock], by simp [Value.ownBlock]⟩))
  rw [List.nil_append] at A1
  obtain ⟨W1, hW1⟩ : ∃ W1, W1 = w7.setCell ⟨Y + 1 + 1, 0, none⟩ (.slice o7 n c7) := ⟨_, rfl⟩
  rw [← hW1] at A1 ⊢
  have HA1 : Hid (Al (Y + 1 + 1) l1 [] (.slice o7 n c7) (.slice none 0 0) W1) := A1.1
  have HB1 : Hid (Below (Y + 1 + 1) W0 W1) := A1.2
  clear hW1 A1 hown7 hgrow7 hloc7 hnil7 f7 r0 r1 r2 rf rl c0 c1 c2 qf HXC HXO HXL HX1 HAl
  obtain ⟨c0, c1, c2⟩ := cells3n HA1.out.blk
  obtain ⟨e0, e1, e2⟩ := cells3n ((HB1.out.block Y (by omega)).trans H5.out)
  have lb1 := hLt HA1.out.blk
  have qf := fun k => Lib.frozen_of_heap HA1.out.blk k
  have HTC : Hid (∀ (j : Nat) (u : Value), (iC t1)[j]? = some u → W1.cell? ((⟨gT, oT, none⟩ : Addr).add j) = some u) := fun j u h => by
    obtain ⟨hl, rfl⟩ := iC_get h
    rw [addO, HB1.out.cell (p := ⟨gT, oT + j, none⟩) (by show gT < Y + 1 + 1; omega)]
    exact (T1.out.cell j hl).2
  go_upto_region 6 with (first
    | (at_builtin; refine wpList_append_own_at _ rfl _ _ 23 rfl (Y + 1 + 1 + 1) 3 i3 _ 1 8 Try.underlying23 hi3 hy0 hy1 hy2 rfl (by decide) (.slice none 0 0) 0 [] rfl (World.ownsRow_nil _ _ _ _) ⟨gT, oT, none⟩ k1 tc (iC t1) rfl (by rw [iC_len, ← AKL.out, Nat.mul_one]) HTC.out (one_iC t1) (by unfold maxLen; omega) (by omega) (by omega) ?_; intro v8 w8 hown8 hgrow8 hnil8 hloc8; rw [Nat.zero_add, List.nil_append] at hown8; have sl := own_slice hown8; obtain ⟨o8, c8, rfl⟩ := sl; have f8 := (hgrow8.block (Y + 1 + 1) lb1 (by simp [Value.ownBlock])).trans HA1.out.blk; obtain ⟨r0, r1, r2⟩ := cells3n f8; have rf := fun k => Lib.frozen_of_heap f8 k; have rl := hLt f8))
  have A2 := HA1.out.addT (ks := t1) (n := k1) (Below.refl _ _) (by rw [List.length_nil, Nat.zero_add]; exact AKL.out) (by exact hown8) hgrow8 hloc8
  rw [List.nil_append] at A2
  obtain ⟨W2, hW2⟩ : ∃ W2, W2 = w8.setCell ⟨Y + 1 + 1, 1, none⟩ (.slice o8 k1 c8) := ⟨_, rfl⟩
  rw [← hW2] at A2 ⊢
  have HA2 : Hid (Al (Y + 1 + 1) l1 t1 (.slice o7 n c7) (.slice o8 k1 c8) W2) := A2.1
  have HB2 : Hid (Below (Y + 1 + 1) W0 W2) := HB1.out.trans A2.2
  clear hW2 A2 hown8 hgrow8 hloc8 hnil8 f8 r0 r1 r2 rf rl c0 c1 c2 qf HTC HA1 HB1 e0 e1 e2 d0 d1 d2 lb lb1 l5
  obtain ⟨b, hb⟩ : ∃ b, b = Y + 1 + 1 := ⟨_, rfl⟩
  have HYb : Hid (Y + 1 < b) := by show Y + 1 < b; omega
  rw [← hb] at HA2 HB2 HMem ⊢
  clear hb
  go_wp2_with fail
  go_loopw [9] (fun s9 W => ∃ (i : Nat) (vN : Value), i ≤ m ∧ s9 = .int .i64 i ∧ Hid (Al b (l1 ++ (l2.take i).map (shN n)) t1 vN (.slice o8 k1 c8) W) ∧ Hid (Below b W0 W)) (fun s9 W => m - (intOf s9).toNat)
  case atStart => exact ⟨0, _, Nat.zero_le _, rfl, by show Al _ _ _ _ _ _; simpa using HA2.out, HB2.out⟩
  case round =>
    clear HA2 HB2
    obtain ⟨i, vN, hi, rfl, HAl, HB⟩ := hrel
    obtain ⟨e0, e1, e2⟩ := cells3n ((HB.out.block (Y + 1) HYb.out).trans H6.out)
    have l6 : Y + 1 < wr.heap.size := by have := hLt HAl.out.blk; have := HYb.out; omega
    by_cases hlt : i < m
    · have hil : i < l2.length := by rw [← BNL.out]; exact hlt
      obtain ⟨gl, ia, ic, hI, d0, d1, d2, d3, d4, d5, d6, d7⟩ := (HMem.out wr HB.out).2.2.1.at_ i hil
      have hmem := List.getElem_mem hil
      have HII : Hid (IntsAt wr (.slice ia l2[i].ins.length ic) l2[i].ins) := hI
      have HIn : Hid (∀ z ∈ l2[i].ins, 0 ≤ z ∧ z < (m : Int)) := fun z hz => by
        have h := (may_ok BMay.out).i _ hmem
        rw [List.all_eq_true] at h
        have := h z hz
        simp [inB] at this
        have h4 := BNL.out
        omega
      have hq := (may_ok BMay.out).q _ hmem
      have HJT : Hid ((l2.take (i + 1)).map (shN n) = (l2.take i).map (shN n) ++ [shN n l2[i]]) := jn_take n l2 hil
      generalize l2[i] = x at d0 d1 d2 d3 d4 d5 d6 d7 HII HIn hq HJT
      obtain ⟨xk, xop, wd, ins, vl, hi', lo, tm⟩ := x
      simp only at d0 d1 d2 d3 d4 d5 d6 d7 HII HIn hq
      obtain ⟨q, hql⟩ : ∃ q, q = ins.length := ⟨_, rfl⟩
      rw [← hql] at d3 HII hq
      have HQL : Hid (q = ins.length) := hql
      have i1 : (0 : Int) ≤ (i : Int) := by omega
      have i2 : (i : Int) < (m : Int) := by omega
      clear hql hI hmem
      go_wp2_with fail
      obtain ⟨W3, hW3⟩ : ∃ W3, W3 = wr.alloc (.cells #[.int .i64 xk, .int .i64 xop, .int .i64 wd, .slice ia q ic, .string (S vl), .int .i64 hi', .int .i64 lo, .int .i64 tm] 39) := ⟨_, rfl⟩
      have hw3 : Below wr.heap.size wr W3 := by rw [hW3]; exact belA (Below.refl _ _) _
      have HX3 : Hid (W3.heap[wr.heap.size]? = some (.cells #[.int .i64 xk, .int .i64 xop, .int .i64 wd, .slice ia q ic, .string (S vl), .int .i64 hi', .int .i64 lo, .int .i64 tm] 39 (0, 0))) := by show W3.heap[_]? = _; rw [hW3]; exact alAt rfl
      have hs3 : W3.heap.size = wr.heap.size + 1 := by rw [hW3]; simp
      have HS3 : Hid (W3.heap.size = wr.heap.size + 1) := hs3
      have HW3 : Hid (Below wr.heap.size wr W3) := hw3
      have HI3 : Hid (IntsAt W3 (.slice ia q ic) ins) := HII.out.below hw3
      rw [← hW3]
      clear hW3 hw3 hs3 d0 d1 d2 d3 d4 d5 d6 d7 e0 e1 e2 HII
      obtain ⟨wo, hwo⟩ : ∃ wo : World, wo = wr := ⟨_, rfl⟩
      rw [← hwo] at HAl HB HX3 HS3 HW3 l6 gl ⊢
      clear hwo
      go_loopw [11, 12] (fun s11 s12 W => ∃ (kk : Nat) (ao : Option Addr) (cap : Nat), kk ≤ q ∧ s12 = .int .i64 kk ∧ s11 = .slice ao kk cap ∧ Hid (W.ownsRow (wo.heap.size + 1) 3 1 (.slice ao kk cap) kk (iC (shI n (ins.take kk)))) ∧ Hid (Below W3.heap.size W3 W)) (fun s11 s12 W => q - (intOf s12).toNat)
      case atStart => exact ⟨0, none, 0, Nat.zero_le _, rfl, rfl, by show World.ownsRow _ _ _ _ _ _ _; exact World.ownsRow_nil _ _ _ _, Below.refl _ _⟩
      case round =>
        obtain ⟨kk, ao, cap, hkk, rfl, rfl, HO, HB3⟩ := hrel
        have hx3 := (HB3.out.block wo.heap.size (by have := HS3.out; omega)).trans HX3.out
        obtain ⟨y0, y1, y2, y3, y4, y5, y6, y7⟩ := cells8 hx3
        have lx := hLt hx3
        by_cases hlk : kk < q
        · have hkl : kk < ins.length := by rw [← HQL.out]; exact hlk
          obtain ⟨g2, o2, cap2, hg2⟩ := HI3.out.some_ (by omega)
          injection hg2 with e4 e5 e6
          subst e4
          obtain ⟨gl3, gd3⟩ := HI3.out.cell kk hkl
          have f1 := (HB3.out.cell (p := ⟨g2, o2 + kk, none⟩) gl3).trans gd3
          have hz := HIn.out ins[kk] (List.getElem_mem hkl)
          have HST : Hid (shI n (ins.take (kk + 1)) = shI n (ins.take kk) ++ [(n : Int) + ins[kk]]) := shI_take n ins hkl
          have HOL : Hid (wr.heap.size ≥ wo.heap.size + 1) := by show _ ≥ _; have := HB3.out.size; have := HS3.out; omega
          generalize ins[kk] = z at f1 hz HST
          obtain ⟨z1, z2⟩ := hz
          have k1' : (0 : Int) ≤ (kk : Int) := by omega
          have k2' : (kk : Int) < (q : Int) := by omega
          clear e5 e6 gd3
          go_wp2_with (first
            | (at_builtin; refine wpList_append_own_at _ rfl _ _ 23 rfl (wo.heap.size + 1) 3 i3 _ 1 8 Try.underlying23 hi3 hy0 hy1 hy2 rfl (by decide) (.slice ao kk cap) kk (iC (shI n (ins.take kk))) rfl (HO.out.alloc _) ⟨wr.heap.size, 0, none⟩ 1 1 [.int .i64 ((n : Int) + z)] rfl rfl (new1i _ _ _ _ rfl) (one1 _) (by unfold maxLen; omega) (by omega) (by have := HOL.out; simp; omega) ?_; intro v7 w7 hown7 hgrow7 hnil7 hloc7))
          have hb7 : Below W3.heap.size W3 w7 := ((HB3.out.alloc (by have := HB3.out.size; omega) _).grown hgrow7 (by have := HB3.out.size; simp; omega) (fun g e => by have := own_ge HO.out g e; have := HS3.out; omega))
          obtain ⟨g7, c7', rfl⟩ := own_slice1 hown7
          go_roundw
          case rel => exact ⟨kk + 1, _, c7', hlk, by go_num, rfl, by show World.ownsRow _ _ _ _ _ _ _; rw [HST.out, iC_app, iC_one]; exact hown7, hb7⟩
          case measure => simp [intOf]; omega
        · obtain rfl : q = kk := by omega
          have HO4 : Hid (wr.ownsRow (wo.heap.size + 1) 3 1 (.slice ao q cap) q (iC (shI n ins))) := by
            have h := HO.out
            rw [List.take_of_length_le (by rw [← HQL.out]; exact Nat.le_refl _)] at h
            exact h
          have hbw : Below wo.heap.size wo wr := bel HW3.out HB3.out
          have hk' : ¬ (q : Int) < (q : Int) := by omega
          have xf := fun k => Lib.frozen_of_heap hx3 k
          have hbl : b < wo.heap.size := hLt HAl.out.blk
          go_upto_region 16 with fail
          obtain ⟨W4, hW4⟩ : ∃ W4, W4 = wr.setCell ⟨wo.heap.size, 3, none⟩ (.slice ao q cap) := ⟨_, rfl⟩
          have hb4 : Below wo.heap.size wo W4 := by rw [hW4]; exact hbw.setCell (Nat.le_refl _) _
          have hx4 : W4.heap[wo.heap.size]? = some (.cells #[.int .i64 xk, .int .i64 xop, .int .i64 wd, .slice ao q cap, .string (S vl), .int .i64 hi', .int .i64 lo, .int .i64 tm] 39 (0, 0)) := by rw [hW4]; exact hset8 hx3 _
          have HO5 : Hid (W4.ownsRow (wo.heap.size + 1) 3 1 (.slice ao q cap) q (iC (shI n ins))) := by
            show World.ownsRow _ _ _ _ _ _ _
            rw [hW4]
            exact own_setB HO4.out (fun e => by have := own_ge HO4.out _ e; omega)
          rw [← hW4]
          clear xf hW4 y0 y1 y2 y3 y4 y5 y6 y7 lx hx3 HO HO4 HB3 hbw
          have HA4 : Hid (Al b (l1 ++ (l2.take i).map (shN n)) t1 vN (.slice o8 k1 c8) W4) := HAl.out.below hb4
          obtain ⟨xs, hox, hnx⟩ := HA4.out.row
          obtain ⟨xs0, hox0, _⟩ := HAl.out.row
          have hNl : ∀ g, vN.ownBlock = some g → g < wo.heap.size := fun g e => (World.ownsRow.lt hox0 g e).2
          have hTl : ∀ g, (Value.slice o8 k1 c8).ownBlock = some g → g < wo.heap.size := fun g e => (World.ownsRow.lt HAl.out.nt g e).2
          have HIn4 : Hid (IntsN W4 (Na b vN (.slice o8 k1 c8)) (.slice ao q cap) (shI n ins)) := by
            refine (own_intsN HO5.out (by rw [shI_len]; exact HQL.out)).mono ?_
            intro g _ hg
            exact ⟨by omega, fun e => by have := hNl g e; omega, fun e => by have := hTl g e; omega⟩
          have HIn5 : Hid (∀ o, IntsN (W4.alloc o) (Na b vN (.slice o8 k1 c8)) (.slice ao q cap) (shI n ins)) := fun o => by
            have hh : Below W4.heap.size W4 (W4.alloc o) := belA (Below.refl _ _) _
            exact HIn4.out.keep ⟨hh.size, fun k hk _ => hh.block k hk⟩
          obtain ⟨p, hp⟩ : ∃ p, p = (l1 ++ (l2.take i).map (shN n)).length := ⟨_, rfl⟩
          have hp2 : p ≤ 244 := by rw [hp]; simp; have := ANL.out; omega
          rw [← hp] at hox
          obtain ⟨na, nc', rfl⟩ := own_slice hox
          have HP : Hid (p = (l1 ++ (l2.take i).map (shN n)).length) := hp
          have HX : Hid (W4.ownsRow (b + 1) 39 8 (.slice na p nc') p xs ∧ NcAt W4 (Na b (.slice na p nc') (.slice o8 k1 c8)) (l1 ++ (l2.take i).map (shN n)) xs) := ⟨hox, hnx⟩
          obtain ⟨y0, y1, y2, y3, y4, y5, y6, y7⟩ := cells8 hx4
          have lx := hLt hx4
          obtain ⟨c0, c1, c2⟩ := cells3n HA4.out.blk
          have lb := hLt HA4.out.blk
          have qf := fun k => Lib.frozen_of_heap HA4.out.blk k
          have HCE := new8 W4 (.int .i64 xk) (.int .i64 xop) (.int .i64 wd) (.slice ao q cap) (.string (S vl)) (.int .i64 hi') (.int .i64 lo) (.int .i64 tm) 39 W4.heap.size rfl
          replace HCE : Hid _ := HCE
          have HON : Hid (∀ u ∈ ndC (shN n ⟨xk, xop, wd, ins, vl, hi', lo, tm⟩) (.slice ao q cap), u.oneCell' = true) := ndC_one _ ⟨_, _, _, rfl⟩
          clear hp hox hnx hox0 hNl hTl
          go_wp2_with (first
            | (at_builtin; refine wpList_append_own_at _ rfl _ _ 22 rfl (b + 1) 39 i0 _ 8 88 Try.underlying22 hi0 hz0 hz1 hz2 rfl (by decide) (.slice na p nc') p xs rfl (own_below HX.out.1 (belA (Below.refl _ _) _)) ⟨W4.heap.size, 0, none⟩ 1 1 (ndC (shN n ⟨xk, xop, wd, ins, vl, hi', lo, tm⟩) (.slice ao q cap)) rfl rfl HCE.out HON.out (by unfold maxLen; omega) (by omega) (by simp; omega) ?_; intro v7 w7 hown7 hgrow7 hnil7 hloc7; obtain ⟨g7, c7', rfl⟩ := own_slice1 hown7; have f7 := (hgrow7.block b (by simp; omega) (fun e => by have := own_ge HX.out.1 b e.symm; omega)).trans ((Below.block (belA (Below.refl W4.heap.size W4) _) b lb).trans HA4.out.blk); obtain ⟨r0, r1, r2⟩ := cells3n f7; have rf := fun k => Lib.frozen_of_heap f7 k; have rl := hLt f7))
          have A5 := HA4.out.addN (m := [shN n ⟨xk, xop, wd, ins, vl, hi', lo, tm⟩]) (n := p + 1) (ys := ndC (shN n ⟨xk, xop, wd, ins, vl, hi', lo, tm⟩) (.slice ao q cap)) (belA (Below.refl _ _) _) ⟨by rw [← HP.out]; exact HX.out.1, HX.out.2⟩ (by rw [← HP.out]; rfl) hown7 hgrow7 hloc7 (by
            rw [← List.append_nil (ndC _ _)]
            exact NcAt.cons (HIn5.out _) .nil)
          go_roundw
          case rel => exact ⟨i + 1, _, hlt, by go_num, by show Al _ _ _ _ _ _; rw [HJT.out, ← List.append_assoc]; exact A5.1, HB.out.trans ((hb4.mono (by omega)).trans A5.2)⟩
          case measure => simp [intOf]; omega
    · obtain rfl : m = i := by omega
      have hn1 : n = l1.length := ANL.out
      have HJ : Hid (Al b (jnL l1 l2) t1 vN (.slice o8 k1 c8) wr) := by
        have h := HAl.out
        rw [List.take_of_length_le (by rw [← BNL.out]; exact Nat.le_refl _)] at h
        show Al _ _ _ _ _ _
        unfold jnL
        rw [← hn1]
        exact h
      have HN1 : Hid (n = l1.length) := hn1
      have hm' : ¬ (m : Int) < (m : Int) := by omega
      clear hn1
      go_wp2_with fail
      clear hm' HAl e0 e1 e2 l6 hlt hi
      obtain ⟨w0, hw0⟩ : ∃ w0 : World, w0 = wr := ⟨_, rfl⟩
      rw [← hw0] at HJ HB ⊢
      clear hw0
      go_loopw [13] (fun s13 W => ∃ (i : Nat) (vT : Value), i ≤ k2 ∧ s13 = .int .i64 i ∧ Hid (Al b (jnL l1 l2) (t1 ++ shI n (t2.take i)) vN vT W) ∧ Hid (Below b W0 W)) (fun s13 W => k2 - (intOf s13).toNat)
      case atStart => exact ⟨0, _, Nat.zero_le _, rfl, by show Al _ _ _ _ _ _; simpa [shI] using HJ.out, HB.out⟩
      case round =>
        clear HJ HB
        obtain ⟨i, vT, hi, rfl, HJ, HB⟩ := hrel
        obtain ⟨e0, e1, e2⟩ := cells3n ((HB.out.block (Y + 1) HYb.out).trans H6.out)
        obtain ⟨c0, c1, c2⟩ := cells3n HJ.out.blk
        have lb := hLt HJ.out.blk
        have qf := fun k => Lib.frozen_of_heap HJ.out.blk k
        have l6 : Y + 1 < wr.heap.size := by have := HYb.out; omega
        obtain ⟨ta, ct, rfl⟩ := own_slice HJ.out.nt
        obtain ⟨p, hp⟩ : ∃ p, p = (t1 ++ shI n (t2.take i)).length := ⟨_, rfl⟩
        have HPK : Hid (p = k1 + i) := by show p = k1 + i; rw [hp, List.length_append, shI_len, List.length_take, ← BKL.out, ← AKL.out]; omega
        have hp12 : p ≤ 12 := by have := HPK.out; omega
        rw [← hp] at HJ c1
        have HP : Hid (p = (t1 ++ shI n (t2.take i)).length) := hp
        clear hp
        by_cases hlt : i < k2
        · have hil : i < t2.length := by rw [← BKL.out]; exact hlt
          obtain ⟨gl3, f1⟩ := (HMem.out wr HB.out).2.2.2.cell i hil
          have hz : 0 ≤ t2[i] ∧ t2[i] < (m : Int) := by
            have h := (may_parts BMay.out).2.2.1
            rw [List.all_eq_true] at h
            have := h _ (List.getElem_mem hil)
            simp [inB] at this
            have := BNL.out
            omega
          have HST : Hid (shI n (t2.take (i + 1)) = shI n (t2.take i) ++ [(n : Int) + t2[i]]) := shI_take n t2 hil
          generalize t2[i] = z at f1 hz HST
          obtain ⟨z1, z2⟩ := hz
          have i1 : (0 : Int) ≤ (i : Int) := by omega
          have i2 : (i : Int) < (k2 : Int) := by omega
          have s1 : IntKind.i64.wrap ((n : Int) + z) = (n : Int) + z := by rw [IntKind.wrap_i64]; omega
          have HBX : Hid (Below wr.heap.size wr (wr.drew.alloc (.cells #[.int .i64 ((n : Int) + z)] 3))) := belA ((Below.refl wr.heap.size wr).drew) _
          have HOA : Hid ((wr.drew.alloc (.cells #[.int .i64 ((n : Int) + z)] 3)).ownsRow (b + 1) 3 1 (.slice ta p ct) p (iC (t1 ++ shI n (t2.take i)))) := by
            have h := own_below HJ.out.nt HBX.out
            rw [← HP.out] at h
            exact h
          have HCE : Hid (∀ (k : Nat) (u : Value), [Value.int .i64 ((n : Int) + z)][k]? = some u → (wr.drew.alloc (.cells #[.int .i64 ((n : Int) + z)] 3)).cell? ((⟨wr.heap.size, 0, none⟩ : Addr).add k) = some u) := new1i wr.drew _ _ _ rfl
          have HLB : Hid (b < (wr.drew.alloc (.cells #[.int .i64 ((n : Int) + z)] 3)).heap.size) := by show _ < _; simp; omega
          have HNB : Hid (some b ≠ (Value.slice ta p ct).ownBlock) := fun e => by have := own_ge HJ.out.nt b e.symm; omega
          have HBB : Hid ((wr.drew.alloc (.cells #[.int .i64 ((n : Int) + z)] 3)).heap[b]? = some (.cells #[vN, .slice ta p ct, .int .i64 0] 25 (0, 0))) := (HBX.out.block _ lb).trans HJ.out.blk
          have ln : b ≠ wr.heap.size := by omega
          go_wp2_with fail
          refine wp_region_any (by kernel_rfl) ?_
          try (change wpAny _ _ _ _ _ _ _ (World.drew _))
          refine wpAny_take (i := 0) (oi := ⟨some 84, _, _, _, _, _⟩) (v := ?_) rfl (by kernel_rfl) (by kernel_rfl) (by kernel_rfl) (fun _ _ _ h => h) (Or.inl ⟨by kernel_rfl, ?_⟩) ?_
          rotate_left
          · intro w'; go_simp <;> with_reducible rfl
          try simp only [Act.put, List.setIfInBounds_toArray, List.set_cons_zero, List.set_cons_succ]
          refine wpAny_take (i := 2) (oi := ⟨some 86, _, _, _, _, _⟩) (v := ?_) rfl (by kernel_rfl) (by kernel_rfl) (by kernel_rfl) (fun _ _ _ h => h) (Or.inl ⟨by kernel_rfl, ?_⟩) ?_
          rotate_left
          · intro w'; go_simp <;> with_reducible rfl
          try simp only [Act.put, List.setIfInBounds_toArray, List.set_cons_zero, List.set_cons_succ]
          refine wpAny_take (i := 3) (oi := ⟨some 87, _, _, _, _, _⟩) (v := ?_) rfl (by kernel_rfl) (by kernel_rfl) (by kernel_rfl) (fun _ _ _ h => h) (Or.inl ⟨by kernel_rfl, ?_⟩) ?_
          rotate_left
          · intro w'; go_simp <;> with_reducible rfl
          try simp only [Act.put, List.setIfInBounds_toArray, List.set_cons_zero, List.set_cons_succ]
          refine wpAny_take (i := 5) (oi := ⟨some 89, _, _, _, _, _⟩) (v := ?_) rfl (by kernel_rfl) (by kernel_rfl) (by kernel_rfl) (fun _ _ _ h => h) (Or.inl ⟨by kernel_rfl, ?_⟩) ?_
          rotate_left
          · intro w'; go_simp <;> with_reducible rfl
          try simp only [Act.put, List.setIfInBounds_toArray, List.set_cons_zero, List.set_cons_succ]
          refine wpAny_ready (rs := [1, 4]) (by kernel_rfl) (by simp) ?_
          refine AllReady.cons rfl (fun K hK => ?_) ?_
          · go_simp
            refine hK _ _ ?_
            clear hK K
            try simp only [Act.put, List.setIfInBounds_toArray, List.set_cons_zero, List.set_cons_succ]
            refine wpAny_ready (rs := [4]) (by kernel_rfl) (by simp) ?_
            refine AllReady.cons rfl (fun K hK => ?_) ?_
            · go_simp
              refine hK _ _ ?_
              clear hK K
              try simp only [Act.put, List.setIfInBounds_toArray, List.set_cons_zero, List.set_cons_succ]
              refine wpAny_take (i := 6) (oi := ⟨some 90, _, _, _, _, _⟩) (v := ?_) rfl (by kernel_rfl) (by kernel_rfl) (by kernel_rfl) (fun _ _ _ h => h) (Or.inl ⟨by kernel_rfl, ?_⟩) ?_
              rotate_left
              · intro w'; go_simp <;> with_reducible rfl
              try simp only [Act.put, List.setIfInBounds_toArray, List.set_cons_zero, List.set_cons_succ]
              refine wpAny_ready (rs := [7]) (by kernel_rfl) (by simp) ?_
              refine AllReady.cons rfl (fun K hK => ?_) ?_
              · go_simp
                refine hK _ _ ?_
                clear hK K
                try simp only [Act.put, List.setIfInBounds_toArray, List.set_cons_zero, List.set_cons_succ]
                refine wpAny_take (i := 8) (oi := ⟨some 92, _, _, _, _, _⟩) (v := ?_) rfl (by kernel_rfl) (by kernel_rfl) (by kernel_rfl) (fun _ _ _ h => h) (Or.inl ⟨by kernel_rfl, ?_⟩) ?_
                rotate_left
                · intro w'; go_simp <;> with_reducible rfl
                try simp only [Act.put, List.setIfInBounds_toArray, List.set_cons_zero, List.set_cons_succ]
                refine wpAny_ready (rs := [9]) (by kernel_rfl) (by simp) ?_
                refine AllReady.cons rfl (fun K hK => ?_) ?_
                · go_simp
                  refine hK _ _ ?_
                  clear hK K
                  try simp only [Act.put, List.setIfInBounds_toArray, List.set_cons_zero, List.set_cons_succ]
                  refine wpAny_ready (rs := [10]) (by kernel_rfl) (by simp) ?_
                  refine AllReady.cons rfl (fun K hK => ?_) ?_
                  · refine step_ownG rfl _ _ 23 rfl (b + 1) 3 i3 _ 1 8 Try.underlying23 hi3 hy0 hy1 hy2 rfl (by decide) (.slice ta p ct) p (iC (t1 ++ shI n (t2.take i))) (by simp [Act.eval, Act.put]) HOA.out ⟨wr.heap.size, 0, none⟩ 1 1 [.int .i64 ((n : Int) + z)] (by simp [Act.eval, Act.put]) rfl HCE.out (one1 _) (by unfold maxLen; omega) (by omega) (by simp; omega) ?_
                    intro v7 w7 ho7 hg7 ha7
                    obtain ⟨g7, c7', hv7⟩ := own_slice1 ho7
                    subst hv7
                    have f7 := (hg7.block b HLB.out HNB.out).trans HBB.out
                    obtain ⟨q0, q1, q2⟩ := cells3n f7
                    have qf := fun j => Lib.frozen_of_heap f7 j
                    try go_simp
                    refine hK _ _ ?_
                    clear hK K
                    try simp only [Act.put, List.setIfInBounds_toArray, List.set_cons_zero, List.set_cons_succ]
                    refine wpAny_take (i := 11) (oi := ⟨some 95, _, _, _, _, _⟩) (v := ?_) rfl (by kernel_rfl) (by kernel_rfl) (by kernel_rfl) (fun _ _ _ h => h) (Or.inl ⟨by kernel_rfl, ?_⟩) ?_
                    rotate_left
                    · intro w'; go_simp <;> with_reducible rfl
                    try simp only [Act.put, List.setIfInBounds_toArray, List.set_cons_zero, List.set_cons_succ]
                    refine wpAny_ready (rs := [12]) (by kernel_rfl) (by simp) ?_
                    refine AllReady.cons rfl (fun K hK => ?_) ?_
                    · go_simp
                      refine hK _ _ ?_
                      clear hK K
                      try simp only [Act.put, List.setIfInBounds_toArray, List.set_cons_zero, List.set_cons_succ]
                      refine wpAny_done (by kernel_rfl) ?_ _
                      have hN8 := HJ.out.addT (ks := [(n : Int) + z]) (n := p + 1) HBX.out (by rw [← HP.out]; rfl) (by exact ho7) hg7 ha7
                      replace hN8 : Hid _ := hN8
                      go_wp2_with fail
                      go_roundw
                      case rel => exact ⟨i + 1, _, hlt, by go_num, by show Al _ _ _ _ _ _; rw [HST.out, ← List.append_assoc]; exact hN8.out.1, HB.out.trans hN8.out.2⟩
                      case measure => simp [intOf]; omega
                    exact AllReady.nil
                  exact AllReady.nil
                exact AllReady.nil
              exact AllReady.nil
            exact AllReady.nil
          refine AllReady.cons rfl (fun K hK => ?_) ?_
          · go_simp
            refine hK _ _ ?_
            clear hK K
            try simp only [Act.put, List.setIfInBounds_toArray, List.set_cons_zero, List.set_cons_succ]
            refine wpAny_take (i := 6) (oi := ⟨some 90, _, _, _, _, _⟩) (v := ?_) rfl (by kernel_rfl) (by kernel_rfl) (by kernel_rfl) (fun _ _ _ h => h) (Or.inl ⟨by kernel_rfl, ?_⟩) ?_
            rotate_left
            · intro w'; go_simp <;> with_reducible rfl
            try simp only [Act.put, List.setIfInBounds_toArray, List.set_cons_zero, List.set_cons_succ]
            refine wpAny_ready (rs := [1, 7]) (by kernel_rfl) (by simp) ?_
            refine AllReady.cons rfl (fun K hK => ?_) ?_
            · go_simp
              refine hK _ _ ?_
              clear hK K
              try simp only [Act.put, List.setIfInBounds_toArray, List.set_cons_zero, List.set_cons_succ]
              refine wpAny_ready (rs := [7]) (by kernel_rfl) (by simp) ?_
              refine AllReady.cons rfl (fun K hK => ?_) ?_
              · go_simp
                refine hK _ _ ?_
                clear hK K
                try simp only [Act.put, List.setIfInBounds_toArray, List.set_cons_zero, List.set_cons_succ]
                refine wpAny_take (i := 8) (oi := ⟨some 92, _, _, _, _, _⟩) (v := ?_) rfl (by kernel_rfl) (by kernel_rfl) (by kernel_rfl) (fun _ _ _ h => h) (Or.inl ⟨by kernel_rfl, ?_⟩) ?_
                rotate_left
                · intro w'; go_simp <;> with_reducible rfl
                try simp only [Act.put, List.setIfInBounds_toArray, List.set_cons_zero, List.set_cons_succ]
                refine wpAny_ready (rs := [9]) (by kernel_rfl) (by simp) ?_
                refine AllReady.cons rfl (fun K hK => ?_) ?_
                · go_simp
                  refine hK _ _ ?_
                  clear hK K
                  try simp only [Act.put, List.setIfInBounds_toArray, List.set_cons_zero, List.set_cons_succ]
                  refine wpAny_ready (rs := [10]) (by kernel_rfl) (by simp) ?_
                  refine AllReady.cons rfl (fun K hK => ?_) ?_
                  · refine step_ownG rfl _ _ 23 rfl (b + 1) 3 i3 _ 1 8 Try.underlying23 hi3 hy0 hy1 hy2 rfl (by decide) (.slice ta p ct) p (iC (t1 ++ shI n (t2.take i))) (by simp [Act.eval, Act.put]) HOA.out ⟨wr.heap.size, 0, none⟩ 1 1 [.int .i64 ((n : Int) + z)] (by simp [Act.eval, Act.put]) rfl HCE.out (one1 _) (by unfold maxLen; omega) (by omega) (by simp; omega) ?_
                    intro v7 w7 ho7 hg7 ha7
                    obtain ⟨g7, c7', hv7⟩ := own_slice1 ho7
                    subst hv7
                    have f7 := (hg7.block b HLB.out HNB.out).trans HBB.out
                    obtain ⟨q0, q1, q2⟩ := cells3n f7
                    have qf := fun j => Lib.frozen_of_heap f7 j
                    try go_simp
                    refine hK _ _ ?_
                    clear hK K
                    try simp only [Act.put, List.setIfInBounds_toArray, List.set_cons_zero, List.set_cons_succ]
                    refine wpAny_take (i := 11) (oi := ⟨some 95, _, _, _, _, _⟩) (v := ?_) rfl (by kernel_rfl) (by kernel_rfl) (by kernel_rfl) (fun _ _ _ h => h) (Or.inl ⟨by kernel_rfl, ?_⟩) ?_
                    rotate_left
                    · intro w'; go_simp <;> with_reducible rfl
                    try simp only [Act.put, List.setIfInBounds_toArray, List.set_cons_zero, List.set_cons_succ]
                    refine wpAny_ready (rs := [12]) (by kernel_rfl) (by simp) ?_
                    refine AllReady.cons rfl (fun K hK => ?_) ?_
                    · go_simp
                      refine hK _ _ ?_
                      clear hK K
                      try simp only [Act.put, List.setIfInBounds_toArray, List.set_cons_zero, List.set_cons_succ]
                      refine wpAny_done (by kernel_rfl) ?_ _
                      have hN8 := HJ.out.addT (ks := [(n : Int) + z]) (n := p + 1) HBX.out (by rw [← HP.out]; rfl) (by exact ho7) hg7 ha7
                      replace hN8 : Hid _ := hN8
                      go_wp2_with fail
                      go_roundw
                      case rel => exact ⟨i + 1, _, hlt, by go_num, by show Al _ _ _ _ _ _; rw [HST.out, ← List.append_assoc]; exact hN8.out.1, HB.out.trans hN8.out.2⟩
                      case measure => simp [intOf]; omega
                    exact AllReady.nil
                  exact AllReady.nil
                exact AllReady.nil
              exact AllReady.nil
            refine AllReady.cons rfl (fun K hK => ?_) ?_
            · go_simp
              refine hK _ _ ?_
              clear hK K
              try simp only [Act.put, List.setIfInBounds_toArray, List.set_cons_zero, List.set_cons_succ]
              refine wpAny_take (i := 8) (oi := ⟨some 92, _, _, _, _, _⟩) (v := ?_) rfl (by kernel_rfl) (by kernel_rfl) (by kernel_rfl) (fun _ _ _ h => h) (Or.inl ⟨by kernel_rfl, ?_⟩) ?_
              rotate_left
              · intro w'; go_simp <;> with_reducible rfl
              try simp only [Act.put, List.setIfInBounds_toArray, List.set_cons_zero, List.set_cons_succ]
              refine wpAny_ready (rs := [1, 9]) (by kernel_rfl) (by simp) ?_
              refine AllReady.cons rfl (fun K hK => ?_) ?_
              · go_simp
                refine hK _ _ ?_
                clear hK K
                try simp only [Act.put, List.setIfInBounds_toArray, List.set_cons_zero, List.set_cons_succ]
                refine wpAny_ready (rs := [9]) (by kernel_rfl) (by simp) ?_
                refine AllReady.cons rfl (fun K hK => ?_) ?_
                · go_simp
                  refine hK _ _ ?_
                  clear hK K
                  try simp only [Act.put, List.setIfInBounds_toArray, List.set_cons_zero, List.set_cons_succ]
                  refine wpAny_ready (rs := [10]) (by kernel_rfl) (by simp) ?_
                  refine AllReady.cons rfl (fun K hK => ?_) ?_
                  · refine step_ownG rfl _ _ 23 rfl (b + 1) 3 i3 _ 1 8 Try.underlying23 hi3 hy0 hy1 hy2 rfl (by decide) (.slice ta p ct) p (iC (t1 ++ shI n (t2.take i))) (by simp [Act.eval, Act.put]) HOA.out ⟨wr.heap.size, 0, none⟩ 1 1 [.int .i64 ((n : Int) + z)] (by simp [Act.eval, Act.put]) rfl HCE.out (one1 _) (by unfold maxLen; omega) (by omega) (by simp; omega) ?_
                    intro v7 w7 ho7 hg7 ha7
                    obtain ⟨g7, c7', hv7⟩ := own_slice1 ho7
                    subst hv7
                    have f7 := (hg7.block b HLB.out HNB.out).trans HBB.out
                    obtain ⟨q0, q1, q2⟩ := cells3n f7
                    have qf := fun j => Lib.frozen_of_heap f7 j
                    try go_simp
                    refine hK _ _ ?_
                    clear hK K
                    try simp only [Act.put, List.setIfInBounds_toArray, List.set_cons_zero, List.set_cons_succ]
                    refine wpAny_take (i := 11) (oi := ⟨some 95, _, _, _, _, _⟩) (v := ?_) rfl (by kernel_rfl) (by kernel_rfl) (by kernel_rfl) (fun _ _ _ h => h) (Or.inl ⟨by kernel_rfl, ?_⟩) ?_
                    rotate_left
                    · intro w'; go_simp <;> with_reducible rfl
                    try simp only [Act.put, List.setIfInBounds_toArray, List.set_cons_zero, List.set_cons_succ]
                    refine wpAny_ready (rs := [12]) (by kernel_rfl) (by simp) ?_
                    refine AllReady.cons rfl (fun K hK => ?_) ?_
                    · go_simp
                      refine hK _ _ ?_
                      clear hK K
                      try simp only [Act.put, List.setIfInBounds_toArray, List.set_cons_zero, List.set_cons_succ]
                      refine wpAny_done (by kernel_rfl) ?_ _
                      have hN8 := HJ.out.addT (ks := [(n : Int) + z]) (n := p + 1) HBX.out (by rw [← HP.out]; rfl) (by exact ho7) hg7 ha7
                      replace hN8 : Hid _ := hN8
                      go_wp2_with fail
                      go_roundw
                      case rel => exact ⟨i + 1, _, hlt, by go_num, by show Al _ _ _ _ _ _; rw [HST.out, ← List.append_assoc]; exact hN8.out.1, HB.out.trans hN8.out.2⟩
                      case measure => simp [intOf]; omega
                    exact AllReady.nil
                  exact AllReady.nil
                exact AllReady.nil
              refine AllReady.cons rfl (fun K hK => ?_) ?_
              · go_simp
                refine hK _ _ ?_
                clear hK K
                try simp only [Act.put, List.setIfInBounds_toArray, List.set_cons_zero, List.set_cons_succ]
                refine wpAny_ready (rs := [1]) (by kernel_rfl) (by simp) ?_
                refine AllReady.cons rfl (fun K hK => ?_) ?_
                · go_simp
                  refine hK _ _ ?_
                  clear hK K
                  try simp only [Act.put, List.setIfInBounds_toArray, List.set_cons_zero, List.set_cons_succ]
                  refine wpAny_ready (rs := [10]) (by kernel_rfl) (by simp) ?_
                  refine AllReady.cons rfl (fun K hK => ?_) ?_
                  · refine step_ownG rfl _ _ 23 rfl (b + 1) 3 i3 _ 1 8 Try.underlying23 hi3 hy0 hy1 hy2 rfl (by decide) (.slice ta p ct) p (iC (t1 ++ shI n (t2.take i))) (by simp [Act.eval, Act.put]) HOA.out ⟨wr.heap.size, 0, none⟩ 1 1 [.int .i64 ((n : Int) + z)] (by simp [Act.eval, Act.put]) rfl HCE.out (one1 _) (by unfold maxLen; omega) (by omega) (by simp; omega) ?_
                    intro v7 w7 ho7 hg7 ha7
                    obtain ⟨g7, c7', hv7⟩ := own_slice1 ho7
                    subst hv7
                    have f7 := (hg7.block b HLB.out HNB.out).trans HBB.out
                    obtain ⟨q0, q1, q2⟩ := cells3n f7
                    have qf := fun j => Lib.frozen_of_heap f7 j
                    try go_simp
                    refine hK _ _ ?_
                    clear hK K
                    try simp only [Act.put, List.setIfInBounds_toArray, List.set_cons_zero, List.set_cons_succ]
                    refine wpAny_take (i := 11) (oi := ⟨some 95, _, _, _, _, _⟩) (v := ?_) rfl (by kernel_rfl) (by kernel_rfl) (by kernel_rfl) (fun _ _ _ h => h) (Or.inl ⟨by kernel_rfl, ?_⟩) ?_
                    rotate_left
                    · intro w'; go_simp <;> with_reducible rfl
                    try simp only [Act.put, List.setIfInBounds_toArray, List.set_cons_zero, List.set_cons_succ]
                    refine wpAny_ready (rs := [12]) (by kernel_rfl) (by simp) ?_
                    refine AllReady.cons rfl (fun K hK => ?_) ?_
                    · go_simp
                      refine hK _ _ ?_
                      clear hK K
                      try simp only [Act.put, List.setIfInBounds_toArray, List.set_cons_zero, List.set_cons_succ]
                      refine wpAny_done (by kernel_rfl) ?_ _
                      have hN8 := HJ.out.addT (ks := [(n : Int) + z]) (n := p + 1) HBX.out (by rw [← HP.out]; rfl) (by exact ho7) hg7 ha7
                      replace hN8 : Hid _ := hN8
                      go_wp2_with fail
                      go_roundw
                      case rel => exact ⟨i + 1, _, hlt, by go_num, by show Al _ _ _ _ _ _; rw [HST.out, ← List.append_assoc]; exact hN8.out.1, HB.out.trans hN8.out.2⟩
                      case measure => simp [intOf]; omega
                    exact AllReady.nil
                  exact AllReady.nil
                exact AllReady.nil
              exact AllReady.nil
            exact AllReady.nil
          exact AllReady.nil
        · obtain rfl : k2 = i := by omega
          have hk' : ¬ (k2 : Int) < (k2 : Int) := by omega
          have HT5 : Hid (t1 ++ shI n (t2.take k2) = t1 ++ shI l1.length t2) := by
            show _ = _
            rw [List.take_of_length_le (by rw [← BKL.out]; exact Nat.le_refl _), ← HN1.out]
          rw [HT5.out] at HJ HP
          clear HT5
          obtain ⟨xs, ho, _⟩ := HJ.out.row
          obtain ⟨na, nc', rfl⟩ := own_slice ho
          obtain ⟨s, hs⟩ : ∃ s, s = (jnL l1 l2).length := ⟨_, rfl⟩
          have HSL : Hid (s = (jnL l1 l2).length) := hs
          have hsn : s = n + m := by rw [hs, jn_len, ← ANL.out, ← BNL.out]
          have HSN : Hid (s = n + m) := hsn
          rw [← hs] at HJ c0
          have s1 : (s : Int) = (n : Int) + (m : Int) := by omega
          have s2 : IntKind.i64.wrap ((n : Int) + (m : Int)) = (s : Int) := by rw [IntKind.wrap_i64]; omega
          have s3 : s ≤ 244 := by omega
          replace s1 : Hid _ := s1
          clear hs hsn ho
          go_upto_region 22 with fail
          have F := HJ.out.fin (.int .i64 (p : Nat))
          obtain ⟨W5, hW5⟩ : ∃ W5, W5 = wr.setCell ⟨b, 2, none⟩ (.int .i64 (p : Nat)) := ⟨_, rfl⟩
          rw [← hW5] at F ⊢
          obtain ⟨F1, F2, F3, F4⟩ := F
          have HB5 : Hid (Below b W0 W5) := HB.out.trans F4
          have HF1 : Hid (W5.heap[b]? = some (.cells #[.slice na s nc', .slice ta p ct, .int .i64 (p : Nat)] 25 (0, 0))) := F1
          have HBw : Hid (Below w.heap.size w W5) := HW0.out.trans (HB5.out.mono (by have := HWY.out; have := HYb.out; omega))
          obtain ⟨f, _, hf⟩ := AMk.out.levels (may_ok AMay.out)
          obtain ⟨g, _, hg⟩ := BMk.out.levels (may_ok BMay.out)
          have hJl := jn_lev (may_ok AMay.out) (may_ok BMay.out) hf hg
          have hJm := jn_may AMay.out BMay.out (by rw [← ANL.out, ← BNL.out]; omega)
          rw [← HP.out] at hJm
          rw [← HN1.out] at hJl
          have HR1 : Hid (∀ W, Below b W0 W → Calls Try.prog 8 #[.agg #[.slice (some ⟨gN, oN, none⟩) n nc, .slice (some ⟨gT, oT, none⟩) k1 tc, .int .i64 (k1 : Nat)]] W fun e w' => (∃ T, e = .returned (.tuple #[.slice (some ⟨T, 0, none⟩) n n, .int .i64 0]) ∧ Hid (w'.rowIs T 3 n (fun q => .int .i64 (f q)))) ∧ Below W.heap.size W w') := fun W hW => runL ANL.out AMay.out (by rw [← AKL.out]; omega) hf W (HMem.out W hW).1 (HMem.out W hW).2.1
          have HR2 : Hid (∀ W, Below b W0 W → Calls Try.prog 8 #[.agg #[.slice (some ⟨gM, oM, none⟩) m mc, .slice (some ⟨gU, oU, none⟩) k2 uc, .int .i64 (k2 : Nat)]] W fun e w' => (∃ T, e = .returned (.tuple #[.slice (some ⟨T, 0, none⟩) m m, .int .i64 0]) ∧ Hid (w'.rowIs T 3 m (fun q => .int .i64 (g q)))) ∧ Below W.heap.size W w') := fun W hW => runL BNL.out BMay.out (by rw [← BKL.out]; omega) hg W (HMem.out W hW).2.2.1 (HMem.out W hW).2.2.2
          have HR3 : Hid (∀ W, Below W5.heap.size W5 W → Calls Try.prog 8 #[.agg #[.slice na s nc', .slice ta p ct, .int .i64 (p : Nat)]] W fun e w' => (∃ T, e = .returned (.tuple #[.slice (some ⟨T, 0, none⟩) s s, .int .i64 0]) ∧ Hid (w'.rowIs T 3 s (fun q => .int .i64 (if q < n then f q else g (q - n))))) ∧ Below W.heap.size W w') := fun W hW => runL HSL.out hJm (by rw [← HP.out]; omega) hJl W (F2.below hW) (F3.below hW)
          obtain ⟨d0, d1, d2⟩ := cells3n ((HB5.out.block Y (by have := HYb.out; omega)).trans H5.out)
          have l5 : Y < W5.heap.size := by have := hLt F1; have := HYb.out; omega
          clear hW5 F1 F2 F3 F4 hf hg hJl hJm e0 e1 e2 c0 c1 c2 qf lb l6 HJ HB HP HPK hk'
          go_upto_region 23 with (first | (go_at_call 8; refine (HR1.out _ HB5.out).mono ?_; rintro e w6 ⟨⟨X1, rfl, RR1⟩, hb6⟩))
          have HB6 : Hid (Below W5.heap.size W5 w6) := hb6
          have HB60 : Hid (Below b W0 w6) := HB5.out.trans (hb6.mono (by have := hLt HF1.out; omega))
          obtain ⟨e0, e1, e2⟩ := cells3n ((HB60.out.block (Y + 1) HYb.out).trans H6.out)
          have l6 : Y + 1 < w6.heap.size := by have := hLt HF1.out; have := HYb.out; have := hb6.size; omega
          clear d0 d1 d2 l5 hb6
          go_upto_region 24 with (first | (go_at_call 8; refine (HR2.out _ HB60.out).mono ?_; rintro e w7 ⟨⟨X2, rfl, RR2⟩, hb7⟩))
          have HB7 : Hid (Below w6.heap.size w6 w7) := hb7
          have HB57 : Hid (Below W5.heap.size W5 w7) := bel HB6.out hb7
          have f7 := (HB57.out.block b (hLt HF1.out)).trans HF1.out
          obtain ⟨c0, c1, c2⟩ := cells3n f7
          have lb := hLt f7
          clear e0 e1 e2 l6 hb7 f7
          go_upto_region 25 with (first | (go_at_call 8; refine (HR3.out _ HB57.out).mono ?_; rintro e w8 ⟨⟨X3, rfl, RR3⟩, hb8⟩))
          have HB8 : Hid (Below w7.heap.size w7 w8) := hb8
          clear c0 c1 c2 lb hb8 HR1 HR2 HR3
          have ss : ((s : Int) != (s : Int)) = false := by simp
          go_wp2_with fail
          go_loopw [20] (fun s20 W => ∃ (i : Nat), i ≤ s ∧ s20 = .int .i64 i ∧ Hid (Below w8.heap.size w8 W)) (fun s20 W => s - (intOf s20).toNat)
          case atStart => exact ⟨0, Nat.zero_le _, rfl, Below.refl _ _⟩
          case round =>
            obtain ⟨i, his, rfl, HBi⟩ := hrel
            by_cases hlt : i < s
            · have f3 : wr.cell? ⟨X3, i, none⟩ = some (.int .i64 (if i < n then f i else g (i - n))) := (HBi.out.cell (p := ⟨X3, i, none⟩) RR3.out.lt).trans (RR3.out.cell hlt)
              have i1 : (0 : Int) ≤ (i : Int) := by omega
              have i2 : (i : Int) < (s : Int) := by omega
              by_cases hin : i < n
              · rw [if_pos hin] at f3
                have f2 : wr.cell? ⟨X1, i, none⟩ = some (.int .i64 (f i)) := ((bel (bel HB7.out HB8.out) HBi.out).cell (p := ⟨X1, i, none⟩) RR1.out.lt).trans (RR1.out.cell hin)
                generalize f i = y at f2 f3
                have i3 : (i : Int) < (n : Int) := by omega
                have i4 : ¬ n ≤ i := by omega
                have mm : (y != y) = false := by simp
                go_wp2_with fail
                go_quiet (fail)
                go_wp2_with fail
                go_roundw
                case rel => exact ⟨i + 1, hlt, by go_num, belDN HBi.out nq⟩
                case measure => simp [intOf]; omega
              · rw [if_neg hin] at f3
                obtain ⟨j, hj⟩ : ∃ j, j = i - n := ⟨_, rfl⟩
                rw [← hj] at f3
                have hjm : j < m := by have := HSN.out; omega
                have f2 : wr.cell? ⟨X2, j, none⟩ = some (.int .i64 (g j)) := ((bel HB8.out HBi.out).cell (p := ⟨X2, j, none⟩) RR2.out.lt).trans (RR2.out.cell hjm)
                generalize g j = y at f2 f3
                have i3 : ¬ (i : Int) < (n : Int) := by omega
                have i4 : (n : Int) ≤ (i : Int) := by omega
                have i5 : IntKind.i64.wrap ((i : Int) - (n : Int)) = (j : Int) := by rw [IntKind.wrap_i64]; omega
                have j1 : (0 : Int) ≤ (j : Int) := by omega
                have j2 : (j : Int) < (m : Int) := by omega
                have mm : (y != y) = false := by simp
                clear hj
                go_wp2_with fail
                go_quiet (fail)
                go_wp2_with fail
                go_roundw
                case rel => exact ⟨i + 1, hlt, by go_num, belDN HBi.out nq⟩
                case measure => simp [intOf]; omega
            · obtain rfl : s = i := by omega
              have hk' : ¬ (s : Int) < (s : Int) := by omega
              go_wp2_with (first | (go_at_call 7; refine (awake11 _).mono ?_; rintro e w9 ⟨rfl, hb9⟩))
              go_ret
              exact ⟨rfl, bel (bel (bel (bel (bel HBw.out HB6.out) HB7.out) HB8.out) HBi.out) hb9⟩
end Go.Proofs.Ytpdcmehjndhcjaa
