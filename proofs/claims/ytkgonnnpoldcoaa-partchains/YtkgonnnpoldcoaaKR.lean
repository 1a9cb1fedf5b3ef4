/- The shared book's adds. -/
import Derived.Test.YtkgonnnpoldcoaaGKe
namespace Go.Proofs.Ytkgonnnpoldcoaa
open Go.RowKit Lg Nl Go.Maps
set_option linter.unusedVariables false
set_option linter.unusedSimpArgs false

theorem step_ownG {P : Program} {ops : Array Oper} {o : Oper} {a : Act} {w : World} {K : Act → World → Prop} {Q : Exit → Act → World → Prop} {E : Prop}
    (hg : o.guard = none) (s x : Operand) (t : TypeId) (hop : o.op = Op.call { callee := Callee.builtin Builtin.append, args := #[s, x], argTypes := #[t, t] })
    (base : Nat) (e : TypeId) (i : TypeInfo) (z : Value) (size bytes : Nat) (h1 : P.underlying t = some (.slice e)) (h2 : P.info? e = some i) (h3 : i.zero = some z) (h4 : i.size = size) (h5 : i.bytes = bytes) (h6 : z.cells.size = size) (h7 : 0 < size)
    (v : Value) (n : Nat) (xs : List Value) (hs : a.eval s = v) (hown : w.ownsRow base e size v n xs)
    (ad : Addr) (m c : Nat) (news : List Value) (hx : a.eval x = .slice (some ad) m c) (hn : news.length = m * size) (hc : ∀ j u, news[j]? = some u → w.cell? (ad.add j) = some u) (h1c : ∀ u ∈ news, u.oneCell' = true)
    (b1 : n + m ≤ maxLen) (b2 : (n + m) * bytes ≤ 140737488355328) (hbase : base ≤ w.heap.size)
    (hK : ∀ v' w', w'.ownsRow base e size v' (n + m) (xs ++ news) → w.grownBy w' v.ownBlock → (v'.ownBlock = v.ownBlock ∨ v'.ownBlock = some w.heap.size) → K (a.put o.dst v') w') :
    if Region.wanted o (yielded ops a.tmps) = true then Oper.wp P o a w K Q else E := by
  have hw : Region.wanted o (yielded ops a.tmps) = true := by simp [Region.wanted, hg]
  rw [if_pos hw]
  obtain ⟨v', w', hr, q2, q3, _, q5⟩ := run_append_own_at (P := P) w base t o.type e i z size bytes h1 h2 h3 h4 h5 h6 h7 v n xs hown ad m c news hn hc h1c b1 b2 hbase
  unfold Oper.wp execOp
  simp only [hop, resolve, invoke, builtin, Sem.run_bind, Sem.run_pure, Result.andThen_ok, List.map_toArray, List.map_cons, List.map_nil, hs, hx, hr]
  exact hK v' w' q2 q3 q5
theorem hset3 {w : World} {b : Nat} {x0 x1 x2 : Value} {t : TypeId} (h : w.heap[b]? = some (.cells #[x0, x1, x2] t (0, 0))) (y : Value) : (w.setCell ⟨b, 0, none⟩ y).heap[b]? = some (.cells #[y, x1, x2] t (0, 0)) := by
  simp only [World.setCell]; rw [Array.getElem?_modify, if_pos rfl, h]; rfl
theorem own_setB {w : World} {B e z n b j : Nat} {v y : Value} {xs : List Value} (h : w.ownsRow B e z v n xs) (hn : v.ownBlock ≠ some b) : (w.setCell ⟨b, j, none⟩ y).ownsRow B e z v n xs := by
  obtain ⟨h1, h2⟩ := h
  refine ⟨h1, ?_⟩
  rcases h2 with h2 | ⟨g, cap, cur, rfl, hg, hh, r⟩
  · exact Or.inl h2
  · exact Or.inr ⟨g, cap, cur, rfl, hg, (Below.heap_setCell _ _ _ _ (by intro e; apply hn; simp [Value.ownBlock]; exact e)).trans hh, r⟩
/-- what adds leaves: w the caller's world, w2 the one that is appended in, w7 the one behind it -/
theorem adds_end {B b n : Nat} {l : List Nd} {vN vT v7 vi : Value} {pt : Pt} {w w2 w7 : World} {x : Nd} {xs : List Value} (h : LsW B b l vN vT pt w) (hb2 : Below w.heap.size w w2) (ho : w7.ownsRow B 47 8 v7 (n + 1) (xs ++ ndC x vi)) (hg : w2.grownBy w7 vN.ownBlock) (ha : v7.ownBlock = vN.ownBlock ∨ v7.ownBlock = some w2.heap.size) (hvi : IntsN w (Nb B b vN vT) vi x.ins) (hn : n = l.length ∧ NcAt w (Nb B b vN vT) l xs) :
    LsW B b (l ++ [x]) v7 vT pt (w7.setCell ⟨b, 0, none⟩ v7) ∧ Bx B b vN v7 w (w7.setCell ⟨b, 0, none⟩ v7) := by
  obtain ⟨hn, hnc⟩ := hn
  have hbl := hLt h.blk
  obtain ⟨xs0, ho0, _⟩ := h.row
  have hnb : vN.ownBlock ≠ some b := own_neT ho0 h.blk (by decide)
  have hB2 : B ≤ w.heap.size := by have := h.hb; omega
  have hb7 : w7.heap[b]? = some (.cells #[vN, vT, .int .i64 pt.z] 51 (0, 0)) := (hg.block b (Nat.lt_of_lt_of_le hbl hb2.size) (fun e => hnb e.symm)).trans ((hb2.block b hbl).trans h.blk)
  have h7b : v7.ownBlock ≠ some b := own_neT ho hb7 (by decide)
  have hK : KeepN (Nb1 B b vN) w (w7.setCell ⟨b, 0, none⟩ v7) := by
    refine ⟨by have a1 := hb2.size; have a2 := hg.size; simp [World.setCell]; omega, fun k hk hN => ?_⟩
    rw [Below.heap_setCell _ _ _ _ hN.2.1, hg.block k (Nat.lt_of_lt_of_le hk hb2.size) (fun e => hN.2.2 e.symm), hb2.block k hk]
  have hM : ∀ g, Nb1 B b vN g → g < w.heap.size → Nb1 B b v7 g := by
    intro g hN hgl
    refine ⟨hN.1, hN.2.1, ?_⟩
    rcases ha with ha | ha
    · rw [ha]; exact hN.2.2
    · rw [ha]; intro e; injection e with e; have := hb2.size; omega
  have hkp : ∀ {l : List Nd} {xs : List Value}, NcAt w (Nb B b vN vT) l xs → NcAt (w7.setCell ⟨b, 0, none⟩ v7) (Nb B b v7 vT) l xs := by
    intro l xs hh
    have h1 := hh.mono (N' := fun g => Nb B b vN vT g ∧ g < w.heap.size) (fun g hg hN => ⟨hN, hg⟩)
    have h2 := h1.keep (w' := w7.setCell ⟨b, 0, none⟩ v7) ⟨hK.1, fun k hk hN => hK.2 k hk hN.1.1⟩
    exact h2.mono (fun g _ hN => ⟨hM g hN.1.1 hN.2, hN.1.2⟩)
  have hvi' : IntsN (w7.setCell ⟨b, 0, none⟩ v7) (Nb B b v7 vT) vi x.ins := by
    have h1 := hvi.mono (N' := fun g => Nb B b vN vT g ∧ g < w.heap.size) (fun g hg hN => ⟨hN, hg⟩)
    have h2 := h1.keep (w' := w7.setCell ⟨b, 0, none⟩ v7) ⟨hK.1, fun k hk hN => hK.2 k hk hN.1.1⟩
    exact h2.mono (fun g _ hN => ⟨hM g hN.1.1 hN.2, hN.1.2⟩)
  refine ⟨⟨hset3 hb7 _, ⟨xs ++ ndC x vi, ?_, (hkp hnc).snoc hvi'⟩, h.hb, own_keep h.nt.1 h.nt.2 hK, fun g e => hM g (h.nt.2 g e) (World.ownsRow.lt h.nt.1 g e).2⟩, ?_⟩
  · rw [List.length_append, ← hn]; exact own_setB ho h7b
  · have hr : ∀ k, k < B → some k ≠ vN.ownBlock := fun k hk e => by have := own_ge ho0 k e.symm; omega
    refine ⟨(?_ : Below B w w7).setCell h.hb _, hK, fun g hg hN => hM g hN hg⟩
    exact ⟨hg.os.trans hb2.os, hg.tape.trans hb2.tape, hg.output.trans hb2.output, Nat.le_trans hb2.size hg.size, fun k hk => (hg.block k (by have := hb2.size; omega) (hr k hk)).trans (hb2.block k (by omega))⟩
theorem new8 (w : World) (y0 y1 y2 y3 y4 y5 y6 y7 : Value) (t : TypeId) (n : Nat) (hn : w.heap.size = n) (j : Nat) (u : Value) (h : [y0, y1, y2, y3, y4, y5, y6, y7][j]? = some u) : (w.alloc (.cells #[y0, y1, y2, y3, y4, y5, y6, y7] t)).cell? ((⟨n, 0, none⟩ : Addr).add j) = some u := by
  subst hn
  have e : ((⟨w.heap.size, 0, none⟩ : Addr).add j) = ⟨w.heap.size, j, none⟩ := by simp [Addr.add]; intro h; exact h.symm
  rw [e, World.cell?_alloc_at _ _ _ _ rfl]
  simpa using h
set_option maxRecDepth 100000 in
set_option maxHeartbeats 2000000 in
theorem kAdds_c (B b : Nat) (l : List Nd) (vN vT : Value) (pt : Pt) (w : World) (x : Nd) (ia : Option Addr) (iq ic : Nat) (h : LsW B b l vN vT pt w) (hvi : IntsN w (Nb B b vN vT) (.slice ia iq ic) x.ins) (hl : l.length ≤ 100000) :
    Calls Try.prog 15 #[.pointer (some ⟨b, 0, none⟩), .agg #[.int .i64 x.k, .int .i64 x.op, .int .i64 x.wd, .slice ia iq ic, .string (S x.vl), .int .i64 x.hi, .int .i64 x.lo, .int .i64 x.tm]] w fun e w' => e = .returned (.int .i64 (l.length : Nat)) ∧ ∃ vN', LsW B b (l ++ [x]) vN' vT pt w' ∧ Bx B b vN vN' w w' := by
  obtain ⟨xs, ho, hnc⟩ := id h.row
  obtain ⟨na, nc, rfl⟩ := own_slice ho
  obtain ⟨n, hn⟩ : ∃ n, n = l.length := ⟨_, rfl⟩
  have hnb : (Value.slice na l.length nc).ownBlock ≠ some b := own_neT ho h.blk (by decide)
  rw [← hn] at h ho hvi hnc hl hnb ⊢
  have hbl := hLt h.blk
  have hBb := h.hb
  obtain ⟨i0, ti, tz0, tz1, tz2⟩ := infoNd
  have HL : Hid (LsW B b l (.slice na n nc) vT pt w) := h
  have HVI : Hid (IntsN w (Nb B b (.slice na n nc) vT) (.slice ia iq ic) x.ins) := hvi
  have HNLE : Hid (n = l.length ∧ NcAt w (Nb B b (.slice na n nc) vT) l xs) := ⟨hn, hnc⟩
  obtain ⟨bx, hbx⟩ : ∃ bx : Obj, bx = .cells #[.int .i64 x.k, .int .i64 x.op, .int .i64 x.wd, .slice ia iq ic, .string (S x.vl), .int .i64 x.hi, .int .i64 x.lo, .int .i64 x.tm] 47 (0, 0) := ⟨_, rfl⟩
  have hbelow : Below w.heap.size w (((w.alloc bx).drew).alloc bx) := belA ((belA (Below.refl _ _) _).drew) _
  have HBX : Hid (Below w.heap.size w (((w.alloc (.cells #[.int .i64 x.k, .int .i64 x.op, .int .i64 x.wd, .slice ia iq ic, .string (S x.vl), .int .i64 x.hi, .int .i64 x.lo, .int .i64 x.tm] 47)).drew).alloc (.cells #[.int .i64 x.k, .int .i64 x.op, .int .i64 x.wd, .slice ia iq ic, .string (S x.vl), .int .i64 x.hi, .int .i64 x.lo, .int .i64 x.tm] 47))) := hbx ▸ hbelow
  have HOA : Hid ((((w.alloc (.cells #[.int .i64 x.k, .int .i64 x.op, .int .i64 x.wd, .slice ia iq ic, .string (S x.vl), .int .i64 x.hi, .int .i64 x.lo, .int .i64 x.tm] 47)).drew).alloc (.cells #[.int .i64 x.k, .int .i64 x.op, .int .i64 x.wd, .slice ia iq ic, .string (S x.vl), .int .i64 x.hi, .int .i64 x.lo, .int .i64 x.tm] 47)).ownsRow B 47 8 (.slice na n nc) n xs) := own_below ho HBX.out
  have HBB : Hid ((((w.alloc (.cells #[.int .i64 x.k, .int .i64 x.op, .int .i64 x.wd, .slice ia iq ic, .string (S x.vl), .int .i64 x.hi, .int .i64 x.lo, .int .i64 x.tm] 47)).drew).alloc (.cells #[.int .i64 x.k, .int .i64 x.op, .int .i64 x.wd, .slice ia iq ic, .string (S x.vl), .int .i64 x.hi, .int .i64 x.lo, .int .i64 x.tm] 47)).heap[b]? = some (.cells #[.slice na n nc, vT, .int .i64 pt.z] 51 (0, 0))) := (HBX.out.block b hbl).trans h.blk
  have HLB : Hid (b < (((w.alloc (.cells #[.int .i64 x.k, .int .i64 x.op, .int .i64 x.wd, .slice ia iq ic, .string (S x.vl), .int .i64 x.hi, .int .i64 x.lo, .int .i64 x.tm] 47)).drew).alloc (.cells #[.int .i64 x.k, .int .i64 x.op, .int .i64 x.wd, .slice ia iq ic, .string (S x.vl), .int .i64 x.hi, .int .i64 x.lo, .int .i64 x.tm] 47)).heap.size) := Nat.lt_of_lt_of_le hbl HBX.out.size
  have HNB : Hid (some b ≠ (Value.slice na n nc).ownBlock) := fun e => hnb e.symm
  have HCE := new8 ((w.alloc (.cells #[.int .i64 x.k, .int .i64 x.op, .int .i64 x.wd, .slice ia iq ic, .string (S x.vl), .int .i64 x.hi, .int .i64 x.lo, .int .i64 x.tm] 47)).drew) (.int .i64 x.k) (.int .i64 x.op) (.int .i64 x.wd) (.slice ia iq ic) (.string (S x.vl)) (.int .i64 x.hi) (.int .i64 x.lo) (.int .i64 x.tm) 47 (w.heap.size + 1) (by simp)
  replace HCE : Hid (∀ (j : Nat) (u : Value), [Value.int .i64 x.k, .int .i64 x.op, .int .i64 x.wd, .slice ia iq ic, .string (S x.vl), .int .i64 x.hi, .int .i64 x.lo, .int .i64 x.tm][j]? = some u → (((w.alloc (.cells #[.int .i64 x.k, .int .i64 x.op, .int .i64 x.wd, .slice ia iq ic, .string (S x.vl), .int .i64 x.hi, .int .i64 x.lo, .int .i64 x.tm] 47)).drew).alloc (.cells #[.int .i64 x.k, .int .i64 x.op, .int .i64 x.wd, .slice ia iq ic, .string (S x.vl), .int .i64 x.hi, .int .i64 x.lo, .int .i64 x.tm] 47)).cell? ((⟨w.heap.size + 1, 0, none⟩ : Addr).add j) = some u) := HCE
  have HON : Hid (∀ u ∈ [Value.int .i64 x.k, .int .i64 x.op, .int .i64 x.wd, .slice ia iq ic, .string (S x.vl), .int .i64 x.hi, .int .i64 x.lo, .int .i64 x.tm], u.oneCell' = true) := by intro u hu; simp at hu; rcases hu with rfl | rfl | rfl | rfl | rfl | rfl | rfl | rfl <;> rfl
  obtain ⟨p0, p1, p2⟩ := cells3n h.blk
  have pb : b ≠ w.heap.size := by omega
  have pb2 : b ≠ w.heap.size + 1 := by omega
  clear h ho hvi hnc hn hbelow hbx bx hnb
  go_enter Try.func15, Try.ntmps15
  go_wp2_with fail
  refine wp_region_any (by kernel_rfl) ?_
  try (change wpAny _ _ _ _ _ _ _ (World.drew _))
  refine wpAny_take (i := 0) (oi := ⟨some 5, _, _, _, _, _⟩) (v := ?_) rfl (by kernel_rfl) (by kernel_rfl) (by kernel_rfl) (fun _ _ _ h => h) (Or.inl ⟨by kernel_rfl, ?_⟩) ?_
  rotate_left
  · intro w'; go_simp <;> with_reducible rfl
  try simp only [Act.put, List.setIfInBounds_toArray, List.set_cons_zero, List.set_cons_succ]
  refine wpAny_take (i := 1) (oi := ⟨some 6, _, _, _, _, _⟩) (v := ?_) rfl (by kernel_rfl) (by kernel_rfl) (by kernel_rfl) (fun _ _ _ h => h) (Or.inl ⟨by kernel_rfl, ?_⟩) ?_
  rotate_left
  · intro w'; go_simp <;> with_reducible rfl
  try simp only [Act.put, List.setIfInBounds_toArray, List.set_cons_zero, List.set_cons_succ]
  refine wpAny_take (i := 2) (oi := ⟨some 7, _, _, _, _, _⟩) (v := ?_) rfl (by kernel_rfl) (by kernel_rfl) (by kernel_rfl) (fun _ _ _ h => h) (Or.inl ⟨by kernel_rfl, ?_⟩) ?_
  rotate_left
  · intro w'; go_simp <;> with_reducible rfl
  try simp only [Act.put, List.setIfInBounds_toArray, List.set_cons_zero, List.set_cons_succ]
  refine wpAny_take (i := 3) (oi := ⟨some 8, _, _, _, _, _⟩) (v := ?_) rfl (by kernel_rfl) (by kernel_rfl) (by kernel_rfl) (fun _ _ _ h => h) (Or.inl ⟨by kernel_rfl, ?_⟩) ?_
  rotate_left
  · intro w'; go_simp <;> with_reducible rfl
  try simp only [Act.put, List.setIfInBounds_toArray, List.set_cons_zero, List.set_cons_succ]
  refine wpAny_take (i := 4) (oi := ⟨some 9, _, _, _, _, _⟩) (v := ?_) rfl (by kernel_rfl) (by kernel_rfl) (by kernel_rfl) (fun _ _ _ h => h) (Or.inl ⟨by kernel_rfl, ?_⟩) ?_
  rotate_left
  · intro w'; go_simp <;> with_reducible rfl
  try simp only [Act.put, List.setIfInBounds_toArray, List.set_cons_zero, List.set_cons_succ]
  refine wpAny_ready (rs := [5, 6]) (by kernel_rfl) (by simp) ?_
  refine AllReady.cons rfl (fun K hK => ?_) ?_
  · go_simp
    refine hK _ _ ?_
    clear hK K
    try simp only [Act.put, List.setIfInBounds_toArray, List.set_cons_zero, List.set_cons_succ]
    refine wpAny_ready (rs := [6]) (by kernel_rfl) (by simp) ?_
    refine AllReady.cons rfl (fun K hK => ?_) ?_
    · go_simp
      refine hK _ _ ?_
      clear hK K
      try simp only [Act.put, List.setIfInBounds_toArray, List.set_cons_zero, List.set_cons_succ]
      refine wpAny_ready (rs := [7]) (by kernel_rfl) (by simp) ?_
      refine AllReady.cons rfl (fun K hK => ?_) ?_
      · go_simp
        refine hK _ _ ?_
        clear hK K
        try simp only [Act.put, List.setIfInBounds_toArray, List.set_cons_zero, List.set_cons_succ]
        refine wpAny_ready (rs := [8]) (by kernel_rfl) (by simp) ?_
        refine AllReady.cons rfl (fun K hK => ?_) ?_
        · refine step_ownG rfl _ _ 23 rfl B 47 i0 _ 8 88 Try.underlying23 ti tz0 tz1 tz2 rfl (by decide) (.slice na n nc) n xs (by simp [Act.eval, Act.put]) (HOA.out) ⟨w.heap.size + 1, 0, none⟩ 1 1 [.int .i64 x.k, .int .i64 x.op, .int .i64 x.wd, .slice ia iq ic, .string (S x.vl), .int .i64 x.hi, .int .i64 x.lo, .int .i64 x.tm] (by simp [Act.eval, Act.put]) rfl (HCE.out) (HON.out) (by unfold maxLen; omega) (by omega) (by simp; omega) ?_
          intro v7 w7 ho7 hg7 ha7
          obtain ⟨g7, c7, hv7⟩ := own_slice1 ho7
          subst hv7
          have f7 := (hg7.block b (HLB.out) (HNB.out)).trans HBB.out
          obtain ⟨q0, q1, q2⟩ := cells3n f7
          have qf := fun j => Lib.frozen_of_heap f7 j
          try go_simp
          refine hK _ _ ?_
          clear hK K
          try simp only [Act.put, List.setIfInBounds_toArray, List.set_cons_zero, List.set_cons_succ]
          refine wpAny_take (i := 9) (oi := ⟨some 14, _, _, _, _, _⟩) (v := ?_) rfl (by kernel_rfl) (by kernel_rfl) (by kernel_rfl) (fun _ _ _ h => h) (Or.inl ⟨by kernel_rfl, ?_⟩) ?_
          rotate_left
          · intro w'; go_simp <;> with_reducible rfl
          try simp only [Act.put, List.setIfInBounds_toArray, List.set_cons_zero, List.set_cons_succ]
          refine wpAny_take (i := 10) (oi := ⟨some 15, _, _, _, _, _⟩) (v := ?_) rfl (by kernel_rfl) (by kernel_rfl) (by kernel_rfl) (fun _ _ _ h => h) (Or.inl ⟨by kernel_rfl, ?_⟩) ?_
          rotate_left
          · intro w'; go_simp <;> with_reducible rfl
          try simp only [Act.put, List.setIfInBounds_toArray, List.set_cons_zero, List.set_cons_succ]
          refine wpAny_take (i := 11) (oi := ⟨some 16, _, _, _, _, _⟩) (v := ?_) rfl (by kernel_rfl) (by kernel_rfl) (by kernel_rfl) (fun _ _ _ h => h) (Or.inl ⟨by kernel_rfl, ?_⟩) ?_
          rotate_left
          · intro w'; go_simp <;> with_reducible rfl
          try simp only [Act.put, List.setIfInBounds_toArray, List.set_cons_zero, List.set_cons_succ]
          refine wpAny_ready (rs := [12]) (by kernel_rfl) (by simp) ?_
          refine AllReady.cons rfl (fun K hK => ?_) ?_
          · go_simp
            refine hK _ _ ?_
            clear hK K
            try simp only [Act.put, List.setIfInBounds_toArray, List.set_cons_zero, List.set_cons_succ]
            refine wpAny_done (by kernel_rfl) ?_ _
            have b8 := hset3 f7 (.slice (some ⟨g7, 0, none⟩) (n + 1) c7)
            obtain ⟨r0, r1, r2⟩ := cells3n b8
            go_wp2_with fail
            go_ret
            exact ⟨rfl, _, adds_end HL.out HBX.out ho7 hg7 ha7 HVI.out HNLE.out⟩
          exact AllReady.nil
        exact AllReady.nil
      exact AllReady.nil
    exact AllReady.nil
  refine AllReady.cons rfl (fun K hK => ?_) ?_
  · go_simp
    refine hK _ _ ?_
    clear hK K
    try simp only [Act.put, List.setIfInBounds_toArray, List.set_cons_zero, List.set_cons_succ]
    refine wpAny_ready (rs := [5, 7]) (by kernel_rfl) (by simp) ?_
    refine AllReady.cons rfl (fun K hK => ?_) ?_
    · go_simp
      refine hK _ _ ?_
      clear hK K
      try simp only [Act.put, List.setIfInBounds_toArray, List.set_cons_zero, List.set_cons_succ]
      refine wpAny_ready (rs := [7]) (by kernel_rfl) (by simp) ?_
      refine AllReady.cons rfl (fun K hK => ?_) ?_
      · go_simp
        refine hK _ _ ?_
        clear hK K
        try simp only [Act.put, List.setIfInBounds_toArray, List.set_cons_zero, List.set_cons_succ]
        refine wpAny_ready (rs := [8]) (by kernel_rfl) (by simp) ?_
        refine AllReady.cons rfl (fun K hK => ?_) ?_
        · refine step_ownG rfl _ _ 23 rfl B 47 i0 _ 8 88 Try.underlying23 ti tz0 tz1 tz2 rfl (by decide) (.slice na n nc) n xs (by simp [Act.eval, Act.put]) (HOA.out) ⟨w.heap.size + 1, 0, none⟩ 1 1 [.int .i64 x.k, .int .i64 x.op, .int .i64 x.wd, .slice ia iq ic, .string (S x.vl), .int .i64 x.hi, .int .i64 x.lo, .int .i64 x.tm] (by simp [Act.eval, Act.put]) rfl (HCE.out) (HON.out) (by unfold maxLen; omega) (by omega) (by simp; omega) ?_
          intro v7 w7 ho7 hg7 ha7
          obtain ⟨g7, c7, hv7⟩ := own_slice1 ho7
          subst hv7
          have f7 := (hg7.block b (HLB.out) (HNB.out)).trans HBB.out
          obtain ⟨q0, q1, q2⟩ := cells3n f7
          have qf := fun j => Lib.frozen_of_heap f7 j
          try go_simp
          refine hK _ _ ?_
          clear hK K
          try simp only [Act.put, List.setIfInBounds_toArray, List.set_cons_zero, List.set_cons_succ]
          refine wpAny_take (i := 9) (oi := ⟨some 14, _, _, _, _, _⟩) (v := ?_) rfl (by kernel_rfl) (by kernel_rfl) (by kernel_rfl) (fun _ _ _ h => h) (Or.inl ⟨by kernel_rfl, ?_⟩) ?_
          rotate_left
          · intro w'; go_simp <;> with_reducible rfl
          try simp only [Act.put, List.setIfInBounds_toArray, List.set_cons_zero, List.set_cons_succ]
          refine wpAny_take (i := 10) (oi := ⟨some 15, _, _, _, _, _⟩) (v := ?_) rfl (by kernel_rfl) (by kernel_rfl) (by kernel_rfl) (fun _ _ _ h => h) (Or.inl ⟨by kernel_rfl, ?_⟩) ?_
          rotate_left
          · intro w'; go_simp <;> with_reducible rfl
          try simp only [Act.put, List.setIfInBounds_toArray, List.set_cons_zero, List.set_cons_succ]
          refine wpAny_take (i := 11) (oi := ⟨some 16, _, _, _, _, _⟩) (v := ?_) rfl (by kernel_rfl) (by kernel_rfl) (by kernel_rfl) (fun _ _ _ h => h) (Or.inl ⟨by kernel_rfl, ?_⟩) ?_
          rotate_left
          · intro w'; go_simp <;> with_reducible rfl
          try simp only [Act.put, List.setIfInBounds_toArray, List.set_cons_zero, List.set_cons_succ]
          refine wpAny_ready (rs := [12]) (by kernel_rfl) (by simp) ?_
          refine AllReady.cons rfl (fun K hK => ?_) ?_
          · go_simp
            refine hK _ _ ?_
            clear hK K
            try simp only [Act.put, List.setIfInBounds_toArray, List.set_cons_zero, List.set_cons_succ]
            refine wpAny_done (by kernel_rfl) ?_ _
            have b8 := hset3 f7 (.slice (some ⟨g7, 0, none⟩) (n + 1) c7)
            obtain ⟨r0, r1, r2⟩ := cells3n b8
            go_wp2_with fail
            go_ret
            exact ⟨rfl, _, adds_end HL.out HBX.out ho7 hg7 ha7 HVI.out HNLE.out⟩
          exact AllReady.nil
        exact AllReady.nil
      exact AllReady.nil
    refine AllReady.cons rfl (fun K hK => ?_) ?_
    · go_simp
      refine hK _ _ ?_
      clear hK K
      try simp only [Act.put, List.setIfInBounds_toArray, List.set_cons_zero, List.set_cons_succ]
      refine wpAny_ready (rs := [5]) (by kernel_rfl) (by simp) ?_
      refine AllReady.cons rfl (fun K hK => ?_) ?_
      · go_simp
        refine hK _ _ ?_
        clear hK K
        try simp only [Act.put, List.setIfInBounds_toArray, List.set_cons_zero, List.set_cons_succ]
        refine wpAny_ready (rs := [8]) (by kernel_rfl) (by simp) ?_
        refine AllReady.cons rfl (fun K hK => ?_) ?_
        · refine step_ownG rfl _ _ 23 rfl B 47 i0 _ 8 88 Try.underlying23 ti tz0 tz1 tz2 rfl (by decide) (.slice na n nc) n xs (by simp [Act.eval, Act.put]) (HOA.out) ⟨w.heap.size + 1, 0, none⟩ 1 1 [.int .i64 x.k, .int .i64 x.op, .int .i64 x.wd, .slice ia iq ic, .string (S x.vl), .int .i64 x.hi, .int .i64 x.lo, .int .i64 x.tm] (by simp [Act.eval, Act.put]) rfl (HCE.out) (HON.out) (by unfold maxLen; omega) (by omega) (by simp; omega) ?_
          intro v7 w7 ho7 hg7 ha7
          obtain ⟨g7, c7, hv7⟩ := own_slice1 ho7
          subst hv7
          have f7 := (hg7.block b (HLB.out) (HNB.out)).trans HBB.out
          obtain ⟨q0, q1, q2⟩ := cells3n f7
          have qf := fun j => Lib.frozen_of_heap f7 j
          try go_simp
          refine hK _ _ ?_
          clear hK K
          try simp only [Act.put, List.setIfInBounds_toArray, List.set_cons_zero, List.set_cons_succ]
          refine wpAny_take (i := 9) (oi := ⟨some 14, _, _, _, _, _⟩) (v := ?_) rfl (by kernel_rfl) (by kernel_rfl) (by kernel_rfl) (fun _ _ _ h => h) (Or.inl ⟨by kernel_rfl, ?_⟩) ?_
          rotate_left
          · intro w'; go_simp <;> with_reducible rfl
          try simp only [Act.put, List.setIfInBounds_toArray, List.set_cons_zero, List.set_cons_succ]
          refine wpAny_take (i := 10) (oi := ⟨some 15, _, _, _, _, _⟩) (v := ?_) rfl (by kernel_rfl) (by kernel_rfl) (by kernel_rfl) (fun _ _ _ h => h) (Or.inl ⟨by kernel_rfl, ?_⟩) ?_
          rotate_left
          · intro w'; go_simp <;> with_reducible rfl
          try simp only [Act.put, List.setIfInBounds_toArray, List.set_cons_zero, List.set_cons_succ]
          refine wpAny_take (i := 11) (oi := ⟨some 16, _, _, _, _, _⟩) (v := ?_) rfl (by kernel_rfl) (by kernel_rfl) (by kernel_rfl) (fun _ _ _ h => h) (Or.inl ⟨by kernel_rfl, ?_⟩) ?_
          rotate_left
          · intro w'; go_simp <;> with_reducible rfl
          try simp only [Act.put, List.setIfInBounds_toArray, List.set_cons_zero, List.set_cons_succ]
          refine wpAny_ready (rs := [12]) (by kernel_rfl) (by simp) ?_
          refine AllReady.cons rfl (fun K hK => ?_) ?_
          · go_simp
            refine hK _ _ ?_
            clear hK K
            try simp only [Act.put, List.setIfInBounds_toArray, List.set_cons_zero, List.set_cons_succ]
            refine wpAny_done (by kernel_rfl) ?_ _
            have b8 := hset3 f7 (.slice (some ⟨g7, 0, none⟩) (n + 1) c7)
            obtain ⟨r0, r1, r2⟩ := cells3n b8
            go_wp2_with fail
            go_ret
            exact ⟨rfl, _, adds_end HL.out HBX.out ho7 hg7 ha7 HVI.out HNLE.out⟩
          exact AllReady.nil
        exact AllReady.nil
      exact AllReady.nil
    exact AllReady.nil
  exact AllReady.nil
end Go.Proofs.Ytkgonnnpoldcoaa
