/- The document's queue: Put. -/
import Derived.Test.YtfjkhcpneehdjaaEwC
namespace Go.Proofs.Ytfjkhcpneehdjaa
open Go.RowKit Qu Go.Maps
set_option linter.unusedVariables false
set_option linter.unusedSimpArgs false
set_option maxRecDepth 100000

/-- an event stands in a list behind all that it isn't ahead of, ahead of the first that it is ahead of -/
def Ins (x : Ev) (s f : List Ev) : Prop := ∃ p, p ≤ s.length ∧ f = s.take p ++ x :: s.drop p ∧ (∀ y ∈ s.take p, ¬ lt x y) ∧ (p < s.length → lt x (g s p))
def Sd (s : List Ev) : Prop := s.Pairwise le
theorem Ins.perm {x : Ev} {s f : List Ev} (h : Ins x s f) : f.Perm (x :: s) := by
  obtain ⟨p, _, e, _⟩ := h
  rw [e]
  refine List.perm_middle.trans ?_
  rw [List.take_append_drop]
theorem Ins.sd {x : Ev} {s f : List Ev} (h : Ins x s f) (hs : Sd s) : Sd f := by
  obtain ⟨p, hp, e, h1, h2⟩ := h
  unfold Sd at *
  have hs' := hs
  rw [← List.take_append_drop p s, List.pairwise_append] at hs'
  obtain ⟨a, b, c⟩ := hs'
  have hd : ∀ y ∈ s.drop p, le x y := fun y hy => by
    rcases Nat.lt_or_ge p s.length with h | h
    · have e1 := List.drop_eq_getElem_cons h
      rw [e1] at hy b
      have hx : lt x s[p] := by have := h2 h; rw [g_at h] at this; exact this
      rcases List.mem_cons.1 hy with e | e
      · rw [e]; exact lt_le hx
      · exact le_trans (lt_le hx) ((List.pairwise_cons.1 b).1 y e)
    · rw [List.drop_eq_nil_of_le h] at hy; cases hy
  rw [e, List.pairwise_append]
  refine ⟨a, List.pairwise_cons.2 ⟨hd, b⟩, fun y hy z hz => ?_⟩
  rcases List.mem_cons.1 hz with e | e
  · rw [e]; exact h1 y hy
  · exact c y hy z e
/-- where the document's walk is -/
def Pi (x : Ev) (s : List Ev) (i : Nat) (acc : List Ev) (d : Bool) : Prop := (d = false ∧ acc = s.take i ∧ ∀ y ∈ s.take i, ¬ lt x y) ∨ (d = true ∧ ∃ p, p < i ∧ acc = s.take p ++ x :: (s.take i).drop p ∧ (∀ y ∈ s.take p, ¬ lt x y) ∧ lt x (g s p))
theorem Pi.start (x : Ev) (s : List Ev) : Pi x s 0 [] false := Or.inl ⟨rfl, by simp, fun y hy => by simp at hy⟩
theorem tk1 {s : List Ev} {i : Nat} (hi : i < s.length) : s.take (i + 1) = s.take i ++ [g s i] := by rw [List.take_succ_eq_append_getElem hi, g_at hi]
theorem Pi.behind {x : Ev} {s acc : List Ev} {i : Nat} (h : Pi x s i acc true) (hi : i < s.length) : Pi x s (i + 1) (acc ++ [g s i]) true := by
  rcases h with ⟨e, _⟩ | ⟨_, p, h1, h2, h3, h4⟩
  · cases e
  · refine Or.inr ⟨rfl, p, by omega, ?_, h3, h4⟩
    rw [tk1 hi, List.drop_append_of_le_length (by rw [List.length_take]; omega), h2, List.append_assoc]
    rfl
theorem Pi.over {x : Ev} {s acc : List Ev} {i : Nat} (h : Pi x s i acc false) (hi : i < s.length) (hl : ¬ lt x (g s i)) : Pi x s (i + 1) (acc ++ [g s i]) false := by
  rcases h with ⟨_, h1, h2⟩ | ⟨e, _⟩
  · refine Or.inl ⟨rfl, by rw [tk1 hi, h1], fun y hy => ?_⟩
    rw [tk1 hi] at hy
    rcases List.mem_append.1 hy with e | e
    · exact h2 y e
    · simp at e; subst e; exact hl
  · cases e
theorem Pi.here {x : Ev} {s acc : List Ev} {i : Nat} (h : Pi x s i acc false) (hi : i < s.length) (hl : lt x (g s i)) : Pi x s (i + 1) (acc ++ [x] ++ [g s i]) true := by
  rcases h with ⟨_, h1, h2⟩ | ⟨e, _⟩
  · refine Or.inr ⟨rfl, i, by omega, ?_, h2, hl⟩
    rw [tk1 hi, List.drop_append_of_le_length (by rw [List.length_take]; omega), List.drop_of_length_le (by rw [List.length_take]; omega), h1]
    simp
  · cases e
theorem Pi.done {x : Ev} {s acc : List Ev} (h : Pi x s s.length acc true) : Ins x s acc := by
  rcases h with ⟨e, _⟩ | ⟨_, p, h1, h2, h3, h4⟩
  · cases e
  · exact ⟨p, by omega, by rw [h2, List.take_length], h3, fun _ => h4⟩
theorem Pi.last {x : Ev} {s acc : List Ev} (h : Pi x s s.length acc false) : Ins x s (acc ++ [x]) := by
  rcases h with ⟨_, h1, h2⟩ | ⟨e, _⟩
  · exact ⟨s.length, Nat.le_refl _, by rw [h1, List.drop_length], h2, fun h => by omega⟩
  · cases e
/-- a list that grows, beside three blocks -/
structure Gr3 (w : World) (T : Nat) (o1 o2 o3 : Obj) (W : World) (v : Value) (acc : List Ev) : Prop where
  a : EvS (T + 3) W v acc
  b : Below w.heap.size w W
  x : W.heap[T]? = some o1
  y : W.heap[T + 1]? = some o2
  z : W.heap[T + 1 + 1]? = some o3
theorem Gr3.start {w W : World} {T : Nat} {o1 o2 o3 : Obj} (b : Below w.heap.size w W) (x : W.heap[T]? = some o1) (y : W.heap[T + 1]? = some o2) (z : W.heap[T + 1 + 1]? = some o3) : Gr3 w T o1 o2 o3 W (.slice none 0 0) [] := ⟨World.ownsRow_nil _ _ _ _, b, x, y, z⟩
theorem Gr3.grow {w : World} {T n : Nat} {o1 o2 o3 : Obj} {W w9 : World} {v v9 : Value} {acc : List Ev} {x : Ev} {o : Obj} (hT : T = w.heap.size) (h : Gr3 w T o1 o2 o3 W v acc) (hn : n = acc.length) (ho : w9.ownsRow (T + 3) 34 6 v9 (n + 1) (evs acc ++ evC x)) (hg : (W.alloc o).grownBy w9 v.ownBlock) : Gr3 w T o1 o2 o3 w9 v9 (acc ++ [x]) := by
  have hy := hLt h.z
  have nb : ∀ k, k < T + 3 → some k ≠ v.ownBlock := fun k hk e => by have := (World.ownsRow.lt h.a k e.symm).1; omega
  have kp : ∀ k, k < T + 3 → w9.heap[k]? = W.heap[k]? := fun k hk => (hg.block k (by simp; omega) (nb k hk)).trans (alOld (by omega))
  refine ⟨?_, ⟨hg.os.trans h.b.os, hg.tape.trans h.b.tape, hg.output.trans h.b.output, ?_, fun k hk => (kp k (by omega)).trans (h.b.block k hk)⟩, (kp T (by omega)).trans h.x, (kp (T + 1) (by omega)).trans h.y, (kp (T + 1 + 1) (by omega)).trans h.z⟩
  · unfold EvS
    rw [List.length_append, ← hn, evs_app]
    simpa [evs] using ho
  · have := hg.size; simp at this; have := h.b.size; omega
theorem Gr3.up {w : World} {T : Nat} {o1 o2 o3 : Obj} {W W' : World} {v : Value} {acc : List Ev} (h : Gr3 w T o1 o2 o3 W v acc) (hb : Below W.heap.size W W') : Gr3 w T o1 o2 o3 W' v acc :=
  ⟨h.a.below hb, belT h.b hb, (hb.block _ (hLt h.x)).trans h.x, (hb.block _ (hLt h.y)).trans h.y, (hb.block _ (hLt h.z)).trans h.z⟩
theorem gr3_end {w : World} {T : Nat} {lim : Int} {o1 o2 o3 : Obj} {W : World} {v : Value} {acc : List Ev} (hT : T = w.heap.size) (h : Gr3 w T o1 o2 o3 W v acc) :
    EvS w.heap.size (((W.setCell ⟨T, 1, none⟩ v).setCell ⟨T + 1 + 1, 0, none⟩ (.int .i64 lim)).setCell ⟨T + 1 + 1, 1, none⟩ v) v acc ∧ Below w.heap.size w (((W.setCell ⟨T, 1, none⟩ v).setCell ⟨T + 1 + 1, 0, none⟩ (.int .i64 lim)).setCell ⟨T + 1 + 1, 1, none⟩ v) := by
  have hy := hLt h.z
  have sz : (((W.setCell ⟨T, 1, none⟩ v).setCell ⟨T + 1 + 1, 0, none⟩ (.int .i64 lim)).setCell ⟨T + 1 + 1, 1, none⟩ v).heap.size = W.heap.size := set1_size.trans (set1_size.trans set1_size)
  have kp : ∀ k, k ≠ T → k ≠ T + 1 + 1 → (((W.setCell ⟨T, 1, none⟩ v).setCell ⟨T + 1 + 1, 0, none⟩ (.int .i64 lim)).setCell ⟨T + 1 + 1, 1, none⟩ v).heap[k]? = W.heap[k]? := fun k a b => (set1_block b).trans ((set1_block b).trans (set1_block a))
  refine ⟨own_mono (own_at h.a fun k hk => kp k ?_ ?_) (by omega), ⟨h.b.os, h.b.tape, h.b.output, by rw [sz]; exact h.b.size, fun k hk => (kp k (by omega) (by omega)).trans (h.b.block k hk)⟩⟩
  · have := (World.ownsRow.lt h.a k hk).1; omega
  · have := (World.ownsRow.lt h.a k hk).1; omega
set_option maxHeartbeats 4000000 in
theorem rPut_neg (B : Nat) (lim : Int) (ao : Option Addr) (n cap : Nat) (s : List Ev) (x : Ev) (w : World) (h : EvS B w (.slice ao n cap) s) (hn : s.length ≤ 4096) (hx : x.t < 0) :
    Calls Try.prog 22 #[.agg #[.int .i64 lim, .slice ao n cap], .agg #[.int .i64 x.t, .int .i64 x.nd, .string x.v, .int .i64 x.fr, .int .i64 x.sq, .bool x.an]] w fun e w' => e = .returned (.tuple #[.agg #[.int .i64 lim, .slice ao n cap], .int .i64 1]) ∧ Below w.heap.size w w' := by
  have d1 : decide (x.t < 0) = true := decide_eq_true hx
  clear h
  go_enter Try.func22, Try.ntmps22
  go_wp2
  go_returns
  exact ⟨rfl, belA (belA (belA (Below.refl _ _) _) _) _⟩
set_option maxHeartbeats 4000000 in
theorem rPut_anti (B : Nat) (lim : Int) (ao : Option Addr) (n cap : Nat) (s : List Ev) (x : Ev) (w : World) (h : EvS B w (.slice ao n cap) s) (hn : s.length ≤ 4096) (hx : 0 ≤ x.t) (ha : x.an = true) :
    Calls Try.prog 22 #[.agg #[.int .i64 lim, .slice ao n cap], .agg #[.int .i64 x.t, .int .i64 x.nd, .string x.v, .int .i64 x.fr, .int .i64 x.sq, .bool x.an]] w fun e w' => e = .returned (.tuple #[.agg #[.int .i64 lim, .slice ao n cap], .int .i64 1]) ∧ Below w.heap.size w w' := by
  have d1 : decide (x.t < 0) = false := decide_eq_false (by omega)
  clear h
  rw [ha]
  go_enter Try.func22, Try.ntmps22
  go_wp2
  go_returns
  exact ⟨rfl, belA (belA (belA (Below.refl _ _) _) _) _⟩
set_option maxHeartbeats 4000000 in
theorem rPut_has (B : Nat) (lim : Int) (ao : Option Addr) (n cap : Nat) (s : List Ev) (x : Ev) (w : World) (h : EvS B w (.slice ao n cap) s) (hn : s.length ≤ 4096) (hx : 0 ≤ x.t) (ha : x.an = false) (hk : hasK s x.fr x.sq = true) :
    Calls Try.prog 22 #[.agg #[.int .i64 lim, .slice ao n cap], .agg #[.int .i64 x.t, .int .i64 x.nd, .string x.v, .int .i64 x.fr, .int .i64 x.sq, .bool x.an]] w fun e w' => e = .returned (.tuple #[.agg #[.int .i64 lim, .slice ao n cap], .int .i64 1]) ∧ Below w.heap.size w w' := by
  have HF : Hid (∀ W, Below w.heap.size w W → Calls Try.prog 29 #[.agg #[.int .i64 lim, .slice ao n cap], .int .i64 x.fr, .int .i64 x.sq] W fun e w' => ∃ k, e = .returned (.int .i64 k) ∧ Hid (Fd s x.fr x.sq k) ∧ Below W.heap.size W w') := fun W hW => rFind_c B lim _ s x.fr x.sq W (h.below hW) (by omega)
  have d1 : decide (x.t < 0) = false := decide_eq_false (by omega)
  have HH : Hid (hasK s x.fr x.sq = true) := hk
  clear h hk
  rw [ha]
  go_enter Try.func22, Try.ntmps22
  go_wp2_with (first
    | (go_at_call 29; refine (HF.out _ (belA (belA (belA (Below.refl _ _) _) _) _)).mono ?_; rintro e w2 ⟨k, rfl, HK, hb2⟩; have q1 : decide (0 ≤ k) = true := (by obtain ⟨i, _, e, _⟩ := HK.out.yes HH.out; rw [e]; simp); have HB2 : Hid (Below w.heap.size w w2) := belT (belA (belA (belA (Below.refl _ _) _) _) _) hb2; have HX2 : Hid (w2.heap[w.heap.size]? = some (.cells #[.int .i64 lim, .slice ao n cap] 29 (0, 0))) := (hb2.block _ (by simp <;> omega)).trans ((alOld (by simp <;> omega)).trans ((alOld (by simp <;> omega)).trans (alAt rfl))); have HY2 : Hid (w2.heap[w.heap.size + 1]? = some (.cells #[.int .i64 x.t, .int .i64 x.nd, .string x.v, .int .i64 x.fr, .int .i64 x.sq, .bool false] 34 (0, 0))) := (hb2.block _ (by simp <;> omega)).trans ((alOld (by simp <;> omega)).trans (alAt (by simp <;> omega))); have HZ2 : Hid (w2.heap[w.heap.size + 1 + 1]? = some (.cells #[.int .i64 0, .slice none 0 0] 29 (0, 0))) := (hb2.block _ (by simp <;> omega)).trans (alAt (by simp <;> omega)); obtain ⟨c0, c1, f0, f1⟩ := cells2 HX2.out; obtain ⟨⟨e0, e1, e2, e3, e4, e5⟩, _⟩ := cell6 HY2.out; obtain ⟨g0, g1, k0, k1⟩ := cells2 HZ2.out; have hz := hLt HZ2.out; clear hb2))
  refine bodyPost_ret (v := .tuple #[.agg #[.int .i64 lim, .slice ao n cap], .int .i64 1]) (by simp [results, Try.results22, go_sem, g0, g1]) rfl ?_
  exact ⟨rfl, (HB2.out.setCell (p := ⟨w.heap.size + 1 + 1, 0, none⟩) (by show w.heap.size ≤ w.heap.size + 1 + 1; omega) _).setCell (p := ⟨w.heap.size + 1 + 1, 1, none⟩) (by show w.heap.size ≤ w.heap.size + 1 + 1; omega) _⟩
set_option maxHeartbeats 4000000 in
theorem rPut_late (B : Nat) (lim : Int) (ao : Option Addr) (n cap : Nat) (s : List Ev) (x : Ev) (w : World) (h : EvS B w (.slice ao n cap) s) (hn : s.length ≤ 4096) (hx : 0 ≤ x.t) (ha : x.an = false) (hk : hasK s x.fr x.sq = false) (ht : 4611686018427387903 < x.t) :
    Calls Try.prog 22 #[.agg #[.int .i64 lim, .slice ao n cap], .agg #[.int .i64 x.t, .int .i64 x.nd, .string x.v, .int .i64 x.fr, .int .i64 x.sq, .bool x.an]] w fun e w' => e = .returned (.tuple #[.agg #[.int .i64 lim, .slice ao n cap], .int .i64 140]) ∧ Below w.heap.size w w' := by
  have HF : Hid (∀ W, Below w.heap.size w W → Calls Try.prog 29 #[.agg #[.int .i64 lim, .slice ao n cap], .int .i64 x.fr, .int .i64 x.sq] W fun e w' => ∃ k, e = .returned (.int .i64 k) ∧ Hid (Fd s x.fr x.sq k) ∧ Below W.heap.size W w') := fun W hW => rFind_c B lim _ s x.fr x.sq W (h.below hW) (by omega)
  have d1 : decide (x.t < 0) = false := decide_eq_false (by omega)
  have HH : Hid (hasK s x.fr x.sq = false) := hk
  have d2 : decide (4611686018427387903 < x.t) = true := decide_eq_true ht
  clear h hk
  rw [ha]
  go_enter Try.func22, Try.ntmps22
  go_wp2_with (first
    | (go_at_call 29; refine (HF.out _ (belA (belA (belA (Below.refl _ _) _) _) _)).mono ?_; rintro e w2 ⟨k, rfl, HK, hb2⟩; have q1 : decide (0 ≤ k) = false := (by rw [HK.out.no HH.out]; rfl); have HB2 : Hid (Below w.heap.size w w2) := belT (belA (belA (belA (Below.refl _ _) _) _) _) hb2; have HX2 : Hid (w2.heap[w.heap.size]? = some (.cells #[.int .i64 lim, .slice ao n cap] 29 (0, 0))) := (hb2.block _ (by simp <;> omega)).trans ((alOld (by simp <;> omega)).trans ((alOld (by simp <;> omega)).trans (alAt rfl))); have HY2 : Hid (w2.heap[w.heap.size + 1]? = some (.cells #[.int .i64 x.t, .int .i64 x.nd, .string x.v, .int .i64 x.fr, .int .i64 x.sq, .bool false] 34 (0, 0))) := (hb2.block _ (by simp <;> omega)).trans ((alOld (by simp <;> omega)).trans (alAt (by simp <;> omega))); have HZ2 : Hid (w2.heap[w.heap.size + 1 + 1]? = some (.cells #[.int .i64 0, .slice none 0 0] 29 (0, 0))) := (hb2.block _ (by simp <;> omega)).trans (alAt (by simp <;> omega)); obtain ⟨c0, c1, f0, f1⟩ := cells2 HX2.out; obtain ⟨⟨e0, e1, e2, e3, e4, e5⟩, _⟩ := cell6 HY2.out; obtain ⟨g0, g1, k0, k1⟩ := cells2 HZ2.out; have hz := hLt HZ2.out; clear hb2))
  refine bodyPost_ret (v := .tuple #[.agg #[.int .i64 lim, .slice ao n cap], .int .i64 140]) (by simp [results, Try.results22, go_sem, g0, g1]) rfl ?_
  exact ⟨rfl, (HB2.out.setCell (p := ⟨w.heap.size + 1 + 1, 0, none⟩) (by show w.heap.size ≤ w.heap.size + 1 + 1; omega) _).setCell (p := ⟨w.heap.size + 1 + 1, 1, none⟩) (by show w.heap.size ≤ w.heap.size + 1 + 1; omega) _⟩
set_option maxHeartbeats 4000000 in
theorem rPut_full (B : Nat) (lim : Int) (ao : Option Addr) (n cap : Nat) (s : List Ev) (x : Ev) (w : World) (h : EvS B w (.slice ao n cap) s) (hn : s.length ≤ 4096) (hx : 0 ≤ x.t) (ha : x.an = false) (hk : hasK s x.fr x.sq = false) (ht : x.t ≤ 4611686018427387903) (hf : lim ≤ (n : Int)) :
    Calls Try.prog 22 #[.agg #[.int .i64 lim, .slice ao n cap], .agg #[.int .i64 x.t, .int .i64 x.nd, .string x.v, .int .i64 x.fr, .int .i64 x.sq, .bool x.an]] w fun e w' => e = .returned (.tuple #[.agg #[.int .i64 lim, .slice ao n cap], .int .i64 141]) ∧ Below w.heap.size w w' := by
  have HF : Hid (∀ W, Below w.heap.size w W → Calls Try.prog 29 #[.agg #[.int .i64 lim, .slice ao n cap], .int .i64 x.fr, .int .i64 x.sq] W fun e w' => ∃ k, e = .returned (.int .i64 k) ∧ Hid (Fd s x.fr x.sq k) ∧ Below W.heap.size W w') := fun W hW => rFind_c B lim _ s x.fr x.sq W (h.below hW) (by omega)
  have d1 : decide (x.t < 0) = false := decide_eq_false (by omega)
  have HH : Hid (hasK s x.fr x.sq = false) := hk
  have d2 : decide (4611686018427387903 < x.t) = false := decide_eq_false (by omega)
  have d3 : decide (lim ≤ (n : Int)) = true := decide_eq_true hf
  clear h hk
  rw [ha]
  go_enter Try.func22, Try.ntmps22
  go_wp2_with (first
    | (go_at_call 29; refine (HF.out _ (belA (belA (belA (Below.refl _ _) _) _) _)).mono ?_; rintro e w2 ⟨k, rfl, HK, hb2⟩; have q1 : decide (0 ≤ k) = false := (by rw [HK.out.no HH.out]; rfl); have HB2 : Hid (Below w.heap.size w w2) := belT (belA (belA (belA (Below.refl _ _) _) _) _) hb2; have HX2 : Hid (w2.heap[w.heap.size]? = some (.cells #[.int .i64 lim, .slice ao n cap] 29 (0, 0))) := (hb2.block _ (by simp <;> omega)).trans ((alOld (by simp <;> omega)).trans ((alOld (by simp <;> omega)).trans (alAt rfl))); have HY2 : Hid (w2.heap[w.heap.size + 1]? = some (.cells #[.int .i64 x.t, .int .i64 x.nd, .string x.v, .int .i64 x.fr, .int .i64 x.sq, .bool false] 34 (0, 0))) := (hb2.block _ (by simp <;> omega)).trans ((alOld (by simp <;> omega)).trans (alAt (by simp <;> omega))); have HZ2 : Hid (w2.heap[w.heap.size + 1 + 1]? = some (.cells #[.int .i64 0, .slice none 0 0] 29 (0, 0))) := (hb2.block _ (by simp <;> omega)).trans (alAt (by simp <;> omega)); obtain ⟨c0, c1, f0, f1⟩ := cells2 HX2.out; obtain ⟨⟨e0, e1, e2, e3, e4, e5⟩, _⟩ := cell6 HY2.out; obtain ⟨g0, g1, k0, k1⟩ := cells2 HZ2.out; have hz := hLt HZ2.out; clear hb2))
  refine bodyPost_ret (v := .tuple #[.agg #[.int .i64 lim, .slice ao n cap], .int .i64 141]) (by simp [results, Try.results22, go_sem, g0, g1]) rfl ?_
  exact ⟨rfl, (HB2.out.setCell (p := ⟨w.heap.size + 1 + 1, 0, none⟩) (by show w.heap.size ≤ w.heap.size + 1 + 1; omega) _).setCell (p := ⟨w.heap.size + 1 + 1, 1, none⟩) (by show w.heap.size ≤ w.heap.size + 1 + 1; omega) _⟩
end Go.Proofs.Ytfjkhcpneehdjaa
