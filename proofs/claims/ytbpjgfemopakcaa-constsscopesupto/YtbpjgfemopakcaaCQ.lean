/- The reference of layer 6: names that are set. -/
import Derived.Test.YtbpjgfemopakcaaCP
import Derived.Maps.AppendAt
import Derived.Deep.RegionLaw
namespace Go.Proofs.Ytbpjgfemopakcaa
open Go.RowKit Lg Go.Maps
set_option linter.unusedVariables false
set_option linter.unusedSimpArgs false

def nmCs (ps : List (ByteArray × Int)) : List Value := ps.map fun p => .string p.1
def niCs (ps : List (ByteArray × Int)) : List Value := ps.map fun p => .int .i64 p.2
/-- the reference's scope: two rows -/
def RfAt (B : Nat) (vN vI : Value) (ps : List (ByteArray × Int)) (w : World) : Prop :=
  (ps = [] ∧ vN = .slice none 0 0 ∧ vI = .slice none 0 0) ∨ (ps ≠ [] ∧ w.ownsRow B 9 1 vN ps.length (nmCs ps) ∧ w.ownsRow B 3 1 vI ps.length (niCs ps))
theorem kOwns_below {w w' : World} {B e z n : Nat} {v : Value} {xs : List Value} (h : w.ownsRow B e z v n xs) (hb : Below w.heap.size w w') : w'.ownsRow B e z v n xs := by
  obtain ⟨h1, h2⟩ := h
  refine ⟨h1, ?_⟩
  rcases h2 with h2 | ⟨g, cap, cur, rfl, hg, hh, r⟩
  · exact Or.inl h2
  · exact Or.inr ⟨g, cap, cur, rfl, hg, (hb.block g (kLt hh)).trans hh, r⟩
theorem kOwns_mono {w : World} {B B' e z n : Nat} {v : Value} {xs : List Value} (h : w.ownsRow B e z v n xs) (hB : B' ≤ B) : w.ownsRow B' e z v n xs := by
  obtain ⟨h1, h2⟩ := h
  refine ⟨h1, ?_⟩
  rcases h2 with h2 | ⟨g, cap, cur, rfl, hg, r⟩
  · exact Or.inl h2
  · exact Or.inr ⟨g, cap, cur, rfl, by omega, r⟩
theorem RfAt.below {B : Nat} {vN vI : Value} {ps : List (ByteArray × Int)} {w w' : World} (h : RfAt B vN vI ps w) (hb : Below w.heap.size w w') : RfAt B vN vI ps w' := by
  rcases h with h | ⟨h1, h2, h3⟩
  · exact Or.inl h
  · exact Or.inr ⟨h1, kOwns_below h2 hb, kOwns_below h3 hb⟩
theorem RfAt.mono {B B' : Nat} {vN vI : Value} {ps : List (ByteArray × Int)} {w : World} (h : RfAt B vN vI ps w) (hb : B' ≤ B) : RfAt B' vN vI ps w := by
  rcases h with h | ⟨h1, h2, h3⟩
  · exact Or.inl h
  · exact Or.inr ⟨h1, kOwns_mono h2 hb, kOwns_mono h3 hb⟩
theorem kInfoStr : ∃ i, Try.prog.info? 9 = some i ∧ i.zero = some (.string ⟨#[]⟩) ∧ i.size = 1 ∧ i.bytes = 16 := info_parts (by kernel_rfl)
theorem kInfoInt : ∃ i, Try.prog.info? 3 = some i ∧ i.zero = some (.int .i64 0) ∧ i.size = 1 ∧ i.bytes = 8 := info_parts (by kernel_rfl)
set_option maxHeartbeats 1000000 in
theorem rSet_no (v : Value) (vI : Value) (ao bo : Option Addr) (n1 c1 n2 c2 : Nat) (x : ByteArray) (k : Int) (hk : fitB k = false) (w : World) :
    Calls Try.prog 10 #[.agg #[.slice ao n1 c1, .slice bo n2 c2], .string x, .int .i64 k] w fun e w' => e = .returned (.tuple #[.agg #[.slice ao n1 c1, .slice bo n2 c2], .int .i64 1]) ∧ Below w.heap.size w w' := by
  have hv : 2147483647 < k ∨ (k ≤ 2147483647 ∧ k < -2147483647) := by simp [fitB] at hk; omega
  clear hk
  rcases hv with hv | ⟨hv1, hv⟩
  all_goals
    go_enter Try.func10, Try.ntmps10
    go_wp2
    refine bodyPost_ret (v := .tuple #[.agg #[.slice ao n1 c1, .slice bo n2 c2], .int .i64 1]) (by simp [results, Try.results10, go_sem]) rfl ?_
    exact ⟨rfl, belA (belA (Below.refl _ _) _) _⟩
/-- the two blocks of a call, and what was there ahead -/
structure St5 (w : World) (bx rs : Obj) (W : World) : Prop where
  bel : Below w.heap.size w W
  x : W.heap[w.heap.size]? = some bx
  r : W.heap[w.heap.size + 1]? = some rs
theorem St5.start {w : World} {bx rs : Obj} : St5 w bx rs ((w.alloc bx).alloc rs) := ⟨belA (belA (Below.refl _ _) _) _, by rw [allocOld (by simp), allocAt rfl], by rw [allocAt (by simp)]⟩
theorem St5.alloc {w W : World} {bx rs o : Obj} (h : St5 w bx rs W) : St5 w bx rs (W.alloc o) := ⟨belA h.bel _, (allocOld (kLt h.x)).trans h.x, (allocOld (kLt h.r)).trans h.r⟩
theorem St5.grown {w W W' : World} {bx rs : Obj} {row : Option Nat} (h : St5 w bx rs W) (hg : W.grownBy W' row) (hr : ∀ g, row = some g → w.heap.size + 1 + 1 ≤ g) : St5 w bx rs W' := by
  have h1 := kLt h.r
  have hn : ∀ k, k < w.heap.size + 1 + 1 → some k ≠ row := fun k hk e => by have := hr k e.symm; omega
  exact ⟨⟨hg.os.trans h.bel.os, hg.tape.trans h.bel.tape, hg.output.trans h.bel.output, Nat.le_trans h.bel.size hg.size, fun k hk => (hg.block k (by omega) (hn k (by omega))).trans (h.bel.block k hk)⟩, (hg.block _ (by omega) (hn _ (by omega))).trans h.x, (hg.block _ (by omega) (hn _ (by omega))).trans h.r⟩
theorem kOwns_none {w w' : World} {B e z n : Nat} {v : Value} {xs : List Value} (h : w.ownsRow B e z v n xs) (hg : w.grownBy w' none) : w'.ownsRow B e z v n xs := by
  obtain ⟨h1, h2⟩ := h
  refine ⟨h1, ?_⟩
  rcases h2 with h2 | ⟨g, cap, cur, rfl, hg2, hh, r⟩
  · exact Or.inl h2
  · exact Or.inr ⟨g, cap, cur, rfl, hg2, (hg.block g (kLt hh) (by simp)).trans hh, r⟩
theorem kOwn_ne2 {w : World} {B e z n B' e' z' n' : Nat} {v v' : Value} {xs xs' : List Value} (h : w.ownsRow B e z v n xs) (h' : w.ownsRow B' e' z' v' n' xs') (hne : e ≠ e') : v.ownBlock = none ∨ v.ownBlock ≠ v'.ownBlock := by
  rcases h.2 with ⟨rfl, _⟩ | ⟨g, cap, cur, rfl, _, hh, _⟩
  · exact Or.inl rfl
  · right
    rcases h'.2 with ⟨rfl, _⟩ | ⟨g', cap', cur', rfl, _, hh', _⟩
    · simp [Value.ownBlock]
    · intro e1
      simp [Value.ownBlock] at e1
      subst e1
      rw [hh] at hh'
      simp at hh'
      exact hne hh'.2
theorem kOwn_far {w : World} {B e z n b : Nat} {v : Value} {xs : List Value} (h : w.ownsRow B e z v n xs) (hb : b < B) : v.ownBlock ≠ some b := fun e1 => by have := (World.ownsRow.lt h b e1).1; omega
theorem new1 (w : World) (a : Value) (t : TypeId) (n : Nat) (hn : w.heap.size = n) (j : Nat) (u : Value) (h : [a][j]? = some u) : (w.alloc (.cells #[a] t)).cell? ((⟨n, 0, none⟩ : Addr).add j) = some u := by
  subst hn
  have e : ((⟨w.heap.size, 0, none⟩ : Addr).add j) = ⟨w.heap.size, j, none⟩ := by simp [Addr.add]; intro h; exact h.symm
  rw [e, World.cell?_alloc_at _ _ _ _ rfl]
  match j, h with
  | 0, h => exact h
  | n + 1, h => simp at h
theorem one1s (x : ByteArray) : ∀ u ∈ [Value.string x], u.oneCell' = true := by intro u hu; simp at hu; subst hu; rfl
theorem one1i (x : Int) : ∀ u ∈ [Value.int .i64 x], u.oneCell' = true := by intro u hu; simp at hu; subst hu; rfl
theorem oneNs (ps : List (ByteArray × Int)) : ∀ u ∈ nmCs ps, u.oneCell' = true := by intro u hu; unfold nmCs at hu; obtain ⟨p, _, rfl⟩ := List.mem_map.1 hu; rfl
theorem oneNi (ps : List (ByteArray × Int)) : ∀ u ∈ niCs ps, u.oneCell' = true := by intro u hu; unfold niCs at hu; obtain ⟨p, _, rfl⟩ := List.mem_map.1 hu; rfl
theorem rSet_end {w W : World} {bx : Obj} {vA vB y0 y1 : Value} {ps : List (ByteArray × Int)} {x : ByteArray} {k : Int} (hs : St5 w bx (.cells #[y0, y1] 27 (0, 0)) W) (hA : W.ownsRow (w.heap.size + 1 + 1) 9 1 vA (ps.length + 1) (nmCs ps ++ [.string x])) (hB : W.ownsRow (w.heap.size + 1 + 1) 3 1 vB (ps.length + 1) (niCs ps ++ [.int .i64 k])) :
    RfAt w.heap.size vA vB (ps ++ [(x, k)]) ((W.setCell ⟨w.heap.size + 1, 0, none⟩ vA).setCell ⟨w.heap.size + 1, 1, none⟩ vB) ∧ Below w.heap.size w ((W.setCell ⟨w.heap.size + 1, 0, none⟩ vA).setCell ⟨w.heap.size + 1, 1, none⟩ vB) := by
  refine ⟨Or.inr ⟨by simp, ?_, ?_⟩, (hs.bel.setCell (by show w.heap.size ≤ w.heap.size + 1; omega) _).setCell (by show w.heap.size ≤ w.heap.size + 1; omega) _⟩
  · rw [List.length_append, show nmCs (ps ++ [(x, k)]) = nmCs ps ++ [.string x] by simp [nmCs]]
    exact kOwns_set (kOwns_set (kOwns_mono hA (by omega)) (kOwn_far hA (by omega))) (kOwn_far hA (by omega))
  · rw [List.length_append, show niCs (ps ++ [(x, k)]) = niCs ps ++ [.int .i64 k] by simp [niCs]]
    exact kOwns_set (kOwns_set (kOwns_mono hB (by omega)) (kOwn_far hB (by omega))) (kOwn_far hB (by omega))
theorem slice1 {w : World} {B e z n : Nat} {v : Value} {xs : List Value} (h : w.ownsRow B e z v (n + 1) xs) : ∃ g cap, v = .slice (some ⟨g, 0, none⟩) (n + 1) cap := by
  rcases h.2 with ⟨_, h2⟩ | ⟨g, cap, cur, rfl, _⟩
  · cases h2
  · exact ⟨g, cap, rfl⟩
set_option maxRecDepth 100000 in
set_option maxHeartbeats 2000000 in
theorem rSet_ok0 (x : ByteArray) (k : Int) (hk : fitB k = true) (w : World) :
    Calls Try.prog 10 #[.agg #[.slice none 0 0, .slice none 0 0], .string x, .int .i64 k] w fun e w' => (∃ vN vI, e = .returned (.tuple #[.agg #[vN, vI], .int .i64 0]) ∧ RfAt w.heap.size vN vI [(x, k)] w') ∧ Below w.heap.size w w' := by
  obtain ⟨hv1, hv2⟩ : -2147483647 ≤ k ∧ k ≤ 2147483647 := by simpa [fitB] using hk
  clear hk
  obtain ⟨i0, hi, hz0, hz1, hz2⟩ := kInfoStr
  obtain ⟨i1, gi, gz0, gz1, gz2⟩ := kInfoInt
  go_enter Try.func10, Try.ntmps10
  go_wp2_with (first
    | (at_builtin; have hx := hA3; refine wpList_append_own_at _ rfl _ _ 25 rfl (w.heap.size + 1 + 1) 3 i1 _ 1 8 Try.underlying25 gi gz0 gz1 gz2 rfl (by decide) (.slice none 0 0) 0 [] rfl (World.ownsRow_nil _ _ _ _) ⟨w3.heap.size, 0, none⟩ 1 1 [.int .i64 k] rfl rfl (new1 _ _ _ _ rfl) (one1i _) (by simp [maxLen]) (by omega) (by simp; omega) ?_; intro vB w4 hB4 hg4 hn4 hl4; have s4 := (s3.alloc (o := .cells #[.int .i64 k] 3)).grown hg4 (by simp [Value.ownBlock]); have hA4 := kOwns_none (World.ownsRow.alloc hA3 _) hg4; obtain ⟨gb, cb, rfl⟩ := slice1 (n := 0) hB4; have e0 : w4.cell? ⟨w.heap.size + 1, 0, none⟩ = some (.slice none 0 0) := by { rw [Lib.cell_of_heap s4.r]; rfl }; have e1 : w4.cell? ⟨w.heap.size + 1, 1, none⟩ = some (.slice none 0 0) := by { rw [Lib.cell_of_heap s4.r]; rfl }; have ef := fun j => Lib.frozen_of_heap s4.r j; have el := kLt s4.r)
    | (at_builtin; refine wpList_append_own_at _ rfl _ _ 24 rfl (w.heap.size + 1 + 1) 9 i0 _ 1 16 Try.underlying24 hi hz0 hz1 hz2 rfl (by decide) (.slice none 0 0) 0 [] rfl (World.ownsRow_nil _ _ _ _) ⟨w.heap.size + 1 + 1, 0, none⟩ 1 1 [.string x] rfl rfl (new1 _ _ _ _ (by simp)) (one1s _) (by simp [maxLen]) (by omega) (by simp) ?_; intro vA w3 hA3 hg3 hn3 hl3; have s3 := (St5.start.alloc (o := .cells #[.string x] 9)).grown hg3 (by simp [Value.ownBlock]); have lt3 := kLt s3.r; obtain ⟨ga, ca, rfl⟩ := slice1 (n := 0) hA3))
  have hR2 := hset2 s4.r (.slice (some ⟨ga, 0, none⟩) 1 ca) (.slice (some ⟨gb, 0, none⟩) 1 cb)
  obtain ⟨W, hW⟩ : ∃ W, W = (w4.setCell ⟨w.heap.size + 1, 0, none⟩ (.slice (some ⟨ga, 0, none⟩) 1 ca)).setCell ⟨w.heap.size + 1, 1, none⟩ (.slice (some ⟨gb, 0, none⟩) 1 cb) := ⟨_, rfl⟩
  rw [← hW] at hR2 ⊢
  have r0 : W.cell? ⟨w.heap.size + 1, 0, none⟩ = some (.slice (some ⟨ga, 0, none⟩) 1 ca) := by rw [Lib.cell_of_heap hR2]; rfl
  have r1 : W.cell? ⟨w.heap.size + 1, 1, none⟩ = some (.slice (some ⟨gb, 0, none⟩) 1 cb) := by rw [Lib.cell_of_heap hR2]; rfl
  refine bodyPost_ret (v := .tuple #[.agg #[.slice (some ⟨ga, 0, none⟩) 1 ca, .slice (some ⟨gb, 0, none⟩) 1 cb], .int .i64 0]) (by simp [results, Try.results10, go_sem, r0, r1]) rfl ?_
  have hE := rSet_end (ps := []) s4 hA4 hB4
  rw [← hW] at hE
  exact ⟨⟨_, _, rfl, hE.1⟩, hE.2⟩
set_option maxRecDepth 100000 in
set_option maxHeartbeats 2000000 in
theorem rSet_ok1 (ps : List (ByteArray × Int)) (B gN gI cN cI : Nat) (x : ByteArray) (k : Int) (hk : fitB k = true) (w : World) (hl : ps.length < 1500000) (hN : w.ownsRow B 9 1 (.slice (some ⟨gN, 0, none⟩) ps.length cN) ps.length (nmCs ps)) (hI : w.ownsRow B 3 1 (.slice (some ⟨gI, 0, none⟩) ps.length cI) ps.length (niCs ps)) :
    Calls Try.prog 10 #[.agg #[.slice (some ⟨gN, 0, none⟩) ps.length cN, .slice (some ⟨gI, 0, none⟩) ps.length cI], .string x, .int .i64 k] w fun e w' => (∃ vN vI, e = .returned (.tuple #[.agg #[vN, vI], .int .i64 0]) ∧ RfAt w.heap.size vN vI (ps ++ [(x, k)]) w') ∧ Below w.heap.size w w' := by
  obtain ⟨hv1, hv2⟩ : -2147483647 ≤ k ∧ k ≤ 2147483647 := by simpa [fitB] using hk
  clear hk
  obtain ⟨i0, hi, hz0, hz1, hz2⟩ := kInfoStr
  obtain ⟨i1, gi, gz0, gz1, gz2⟩ := kInfoInt
  have HN : Hid (w.ownsRow B 9 1 (.slice (some ⟨gN, 0, none⟩) ps.length cN) ps.length (nmCs ps)) := hN
  have HI : Hid (w.ownsRow B 3 1 (.slice (some ⟨gI, 0, none⟩) ps.length cI) ps.length (niCs ps)) := hI
  clear hN hI
  obtain ⟨n, hn⟩ : ∃ n, n = ps.length := ⟨_, rfl⟩
  have HLN : Hid (n = ps.length) := hn
  rw [← hn] at HN HI hl ⊢
  clear hn
  go_enter Try.func10, Try.ntmps10
  go_wp2_with (first
    | (at_builtin; have hx := hA3; refine wpList_append_own_at _ rfl _ _ 25 rfl (w.heap.size + 1 + 1) 3 i1 _ 1 8 Try.underlying25 gi gz0 gz1 gz2 rfl (by decide) _ n (niCs ps) rfl (World.ownsRow.alloc hB3 _) ⟨w3.heap.size, 0, none⟩ 1 1 [.int .i64 k] rfl rfl (new1 _ _ _ _ rfl) (one1i _) (by unfold maxLen; omega) (by omega) (by simp; omega) ?_; intro vB w4 hB4 hg4 hn4 hl4; have s4 := (s3.alloc (o := .cells #[.int .i64 k] 3)).grown hg4 (fun g e => (World.ownsRow.lt hB3 g e).1); have hA4 := World.ownsRow.kept (World.ownsRow.alloc hA3 _) hg4 (kOwn_ne2 hA3 hB3 (by decide)); obtain ⟨gb, cb, rfl⟩ := slice1 (n := n) hB4; have e0 : w4.cell? ⟨w.heap.size + 1, 0, none⟩ = some (.slice none 0 0) := by { rw [Lib.cell_of_heap s4.r]; rfl }; have e1 : w4.cell? ⟨w.heap.size + 1, 1, none⟩ = some (.slice none 0 0) := by { rw [Lib.cell_of_heap s4.r]; rfl }; have ef := fun j => Lib.frozen_of_heap s4.r j; have el := kLt s4.r)
    | (at_builtin; have hx := hB; refine wpList_append_own_at _ rfl _ _ 24 rfl (w.heap.size + 1 + 1) 9 i0 _ 1 16 Try.underlying24 hi hz0 hz1 hz2 rfl (by decide) _ n (nmCs ps) rfl (World.ownsRow.alloc hA2 _) ⟨w2.heap.size, 0, none⟩ 1 1 [.string x] rfl rfl (new1 _ _ _ _ rfl) (one1s _) (by unfold maxLen; omega) (by omega) (by simp; omega) ?_; intro vA' w3 hA3 hg3 hn3 hl3; have s3 := (s2.alloc (o := .cells #[.string x] 9)).grown hg3 (fun g e => (World.ownsRow.lt hA2 g e).1); have hB3 := World.ownsRow.kept (World.ownsRow.alloc hB _) hg3 (kOwn_ne2 hB hA2 (by decide)); have lt3 := kLt s3.r; obtain ⟨ga, ca, rfl⟩ := slice1 (n := n) hA3)
    | (at_builtin; have hx := hA; refine wpList_append_own_at _ rfl _ _ 25 rfl (w.heap.size + 1 + 1) 3 i1 _ 1 8 Try.underlying25 gi gz0 gz1 gz2 rfl (by decide) (.slice none 0 0) 0 [] rfl (World.ownsRow_nil _ _ _ _) ⟨gI, 0, none⟩ n cI (niCs ps) rfl (by rw [HLN.out]; simp [niCs]) (World.ownsRow.cells (kOwns_below HI.out s1.bel) rfl) (oneNi _) (by unfold maxLen; omega) (by omega) (by have := kLt s1.r; omega) ?_; intro vB w2 hB hg2 hn2 hl2; simp only [Nat.zero_add, List.nil_append] at hB; have s2 := s1.grown hg2 (by simp [Value.ownBlock]); have hA2 := kOwns_none hA hg2; have lt2 := kLt s2.r)
    | (at_builtin; refine wpList_append_own_at _ rfl _ _ 24 rfl (w.heap.size + 1 + 1) 9 i0 _ 1 16 Try.underlying24 hi hz0 hz1 hz2 rfl (by decide) (.slice none 0 0) 0 [] rfl (World.ownsRow_nil _ _ _ _) ⟨gN, 0, none⟩ n cN (nmCs ps) rfl (by rw [HLN.out]; simp [nmCs]) (World.ownsRow.cells (kOwns_below HN.out St5.start.bel) rfl) (oneNs _) (by unfold maxLen; omega) (by omega) (by simp) ?_; intro vA w1 hA hg1 hn1 hl1; simp only [Nat.zero_add, List.nil_append] at hA; have s1 := St5.start.grown hg1 (by simp [Value.ownBlock]); have x1 : w1.cell? ⟨w.heap.size, 1, none⟩ = some (.slice (some ⟨gI, 0, none⟩) n cI) := by { rw [Lib.cell_of_heap s1.x]; rfl }))
  have hn0 := HLN.out
  subst hn0
  have hR2 := hset2 s4.r (.slice (some ⟨ga, 0, none⟩) (ps.length + 1) ca) (.slice (some ⟨gb, 0, none⟩) (ps.length + 1) cb)
  obtain ⟨W, hW⟩ : ∃ W, W = (w4.setCell ⟨w.heap.size + 1, 0, none⟩ (.slice (some ⟨ga, 0, none⟩) (ps.length + 1) ca)).setCell ⟨w.heap.size + 1, 1, none⟩ (.slice (some ⟨gb, 0, none⟩) (ps.length + 1) cb) := ⟨_, rfl⟩
  rw [← hW] at hR2 ⊢
  have r0 : W.cell? ⟨w.heap.size + 1, 0, none⟩ = some (.slice (some ⟨ga, 0, none⟩) (ps.length + 1) ca) := by rw [Lib.cell_of_heap hR2]; rfl
  have r1 : W.cell? ⟨w.heap.size + 1, 1, none⟩ = some (.slice (some ⟨gb, 0, none⟩) (ps.length + 1) cb) := by rw [Lib.cell_of_heap hR2]; rfl
  refine bodyPost_ret (v := .tuple #[.agg #[.slice (some ⟨ga, 0, none⟩) (ps.length + 1) ca, .slice (some ⟨gb, 0, none⟩) (ps.length + 1) cb], .int .i64 0]) (by simp [results, Try.results10, go_sem, r0, r1]) rfl ?_
  have hE := rSet_end (ps := ps) s4 hA4 hB4
  rw [← hW] at hE
  exact ⟨⟨_, _, rfl, hE.1⟩, hE.2⟩
/-- a name is set in the reference's scope -/
theorem rSet_ok {B : Nat} {vN vI : Value} {ps : List (ByteArray × Int)} {w : World} (h : RfAt B vN vI ps w) (hl : ps.length < 1500000) (x : ByteArray) (k : Int) (hk : fitB k = true) :
    Calls Try.prog 10 #[.agg #[vN, vI], .string x, .int .i64 k] w fun e w' => (∃ vN' vI', e = .returned (.tuple #[.agg #[vN', vI'], .int .i64 0]) ∧ RfAt w.heap.size vN' vI' (ps ++ [(x, k)]) w') ∧ Below w.heap.size w w' := by
  rcases h with ⟨rfl, rfl, rfl⟩ | ⟨h1, h2, h3⟩
  · exact rSet_ok0 x k hk w
  · rcases h2.2 with ⟨_, h4⟩ | ⟨g, cap, cur, rfl, _⟩
    · exact absurd (List.length_eq_zero_iff.1 h4) h1
    · rcases h3.2 with ⟨_, h4⟩ | ⟨g', cap', cur', rfl, _⟩
      · exact absurd (List.length_eq_zero_iff.1 h4) h1
      · exact rSet_ok1 ps B g g' cap cap' x k hk w hl h2 h3
theorem RfAt.slices {B : Nat} {vN vI : Value} {ps : List (ByteArray × Int)} {w : World} (h : RfAt B vN vI ps w) : ∃ ao n1 c1 bo n2 c2, vN = .slice ao n1 c1 ∧ vI = .slice bo n2 c2 := by
  rcases h with ⟨rfl, rfl, rfl⟩ | ⟨h1, h2, h3⟩
  · exact ⟨_, _, _, _, _, _, rfl, rfl⟩
  · rcases h2.2 with ⟨rfl, _⟩ | ⟨g, cap, cur, rfl, _⟩ <;> rcases h3.2 with ⟨rfl, _⟩ | ⟨g', cap', cur', rfl, _⟩ <;> exact ⟨_, _, _, _, _, _, rfl, rfl⟩
/-- one that may not be -/
theorem rSet_bad {B : Nat} {vN vI : Value} {ps : List (ByteArray × Int)} {w : World} (h : RfAt B vN vI ps w) (x : ByteArray) (k : Int) (hk : fitB k = false) :
    Calls Try.prog 10 #[.agg #[vN, vI], .string x, .int .i64 k] w fun e w' => e = .returned (.tuple #[.agg #[vN, vI], .int .i64 1]) ∧ Below w.heap.size w w' := by
  obtain ⟨ao, n1, c1, bo, n2, c2, rfl, rfl⟩ := h.slices
  exact rSet_no (.slice none 0 0) (.slice none 0 0) ao bo n1 c1 n2 c2 x k hk w
end Go.Proofs.Ytbpjgfemopakcaa
