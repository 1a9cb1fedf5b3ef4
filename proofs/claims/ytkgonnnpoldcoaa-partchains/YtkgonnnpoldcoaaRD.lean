/- A list of lists that grows, in memory. -/
import Derived.Test.YtkgonnnpoldcoaaRC
namespace Go.Proofs.Ytkgonnnpoldcoaa
open Go.RowKit Lg Nl Go.Maps
set_option linter.unusedVariables false
set_option linter.unusedSimpArgs false

theorem own_at {w w' : World} {B e z n : Nat} {v : Value} {xs : List Value} (h : w.ownsRow B e z v n xs) (hb : ∀ k, v.ownBlock = some k → w'.heap[k]? = w.heap[k]?) : w'.ownsRow B e z v n xs := by
  obtain ⟨h1, h2⟩ := h
  refine ⟨h1, ?_⟩
  rcases h2 with h2 | ⟨g, cap, cur, rfl, hg, hh, r⟩
  · exact Or.inl h2
  · exact Or.inr ⟨g, cap, cur, rfl, hg, (hb g rfl).trans hh, r⟩
/-- a list vL whose elements vs are the rows gs, all in blocks of their own -/
structure GL (B : Nat) (vL : Value) (vs : List Value) (gs : Nat → List Nat) (W : World) : Prop where
  o : W.ownsRow B 24 1 vL vs.length vs
  r : ∀ (k : Nat) v, vs[k]? = some v → W.ownsRow B 3 1 v (gs k).length (iC (nZ (gs k)))
  d : ∀ (k k' : Nat) v v' b, vs[k]? = some v → vs[k']? = some v' → v.ownBlock = some b → v'.ownBlock = some b → k = k'
  q : ∀ (k : Nat) v b, vs[k]? = some v → v.ownBlock = some b → vL.ownBlock ≠ some b
theorem GL.start (B : Nat) (gs : Nat → List Nat) (W : World) : GL B (.slice none 0 0) [] gs W :=
  ⟨World.ownsRow_nil W B _ 1, fun k v h => by simp at h, fun k k' v v' b h => by simp at h, fun k v b h => by simp at h⟩
theorem GL.keep {B : Nat} {vL : Value} {vs : List Value} {gs : Nat → List Nat} {W W' : World} (h : GL B vL vs gs W) (hb : ∀ k, B ≤ k → k < W.heap.size → W'.heap[k]? = W.heap[k]?) : GL B vL vs gs W' :=
  ⟨own_at h.o fun k e => hb k (h.o.lt k e).1 (h.o.lt k e).2, fun k v hk => own_at (h.r k v hk) fun q e => hb q ((h.r k v hk).lt q e).1 ((h.r k v hk).lt q e).2, h.d, h.q⟩
theorem GL.congr {B : Nat} {vL : Value} {vs : List Value} {gs gs' : Nat → List Nat} {W : World} (h : GL B vL vs gs W) (e : ∀ k, k < vs.length → gs k = gs' k) : GL B vL vs gs' W :=
  ⟨h.o, fun k v hk => by have hl := (List.getElem?_eq_some_iff.1 hk).1; rw [← e k hl]; exact h.r k v hk, h.d, h.q⟩
/-- a list more, which is empty -/
theorem GL.push {B : Nat} {vL v' : Value} {vs : List Value} {gs : Nat → List Nat} {W W1 W' : World} (h : GL B vL vs gs W) (h0 : gs vs.length = []) (h1 : ∀ k, k < W.heap.size → W1.heap[k]? = W.heap[k]?) (hs : W.heap.size ≤ W1.heap.size)
    (ho : W'.ownsRow B 24 1 v' (vs.length + 1) (vs ++ [.slice none 0 0])) (hg : W1.grownBy W' vL.ownBlock) (hloc : v'.ownBlock = vL.ownBlock ∨ v'.ownBlock = some W1.heap.size) : GL B v' (vs ++ [.slice none 0 0]) gs W' := by
  have key : ∀ k v, (vs ++ [Value.slice none 0 0])[k]? = some v → (k < vs.length ∧ vs[k]? = some v) ∨ (k = vs.length ∧ v = .slice none 0 0) := fun k v hk => by
    rcases Nat.lt_trichotomy k vs.length with hl | hl | hl
    · exact Or.inl ⟨hl, by rw [List.getElem?_append_left hl] at hk; exact hk⟩
    · subst hl; rw [List.getElem?_append_right (Nat.le_refl _), Nat.sub_self] at hk; exact Or.inr ⟨rfl, by simpa using hk.symm⟩
    · rw [List.getElem?_eq_none (by simp; omega)] at hk; cases hk
  refine ⟨by rw [List.length_append]; exact ho, fun k v hk => ?_, fun k k' v v2 b hk hk' hb hb' => ?_, fun k v b hk hb => ?_⟩
  · rcases key k v hk with ⟨hl, hv⟩ | ⟨rfl, rfl⟩
    · have hr := h.r k v hv
      refine own_at hr fun b e => ?_
      have hlt := (hr.lt b e).2
      exact (hg.block b (by omega) (h.q k v b hv e).symm).trans (h1 b hlt)
    · rw [h0]; exact World.ownsRow_nil _ _ _ _
  · rcases key k v hk with ⟨hl, hv⟩ | ⟨rfl, rfl⟩
    · rcases key k' v2 hk' with ⟨hl', hv'⟩ | ⟨rfl, rfl⟩
      · exact h.d k k' v v2 b hv hv' hb hb'
      · cases hb'
    · cases hb
  · rcases key k v hk with ⟨hl, hv⟩ | ⟨rfl, rfl⟩
    · rcases hloc with e | e
      · rw [e]; exact h.q k v b hv hb
      · rw [e]; intro e2; injection e2 with e2; have := ((h.r k v hv).lt b hb).2; omega
    · cases hb
/-- an element more of one of the lists, which is stored back -/
theorem GL.app {B gL cap : Nat} {vs : List Value} {gs : Nat → List Nat} {W W1 W' : World} {k x : Nat} {v v' : Value} (h : GL B (.slice (some ⟨gL, 0, none⟩) vs.length cap) vs gs W) (hk : vs[k]? = some v) (h1 : ∀ j, j < W.heap.size → W1.heap[j]? = W.heap[j]?) (hs : W.heap.size ≤ W1.heap.size)
    (ho : W'.ownsRow B 3 1 v' ((gs k).length + 1) (iC (nZ (gs k)) ++ [.int .i64 (x : Int)])) (hg : W1.grownBy W' v.ownBlock) (hloc : v'.ownBlock = v.ownBlock ∨ v'.ownBlock = some W1.heap.size) :
    GL B (.slice (some ⟨gL, 0, none⟩) vs.length cap) (vs.set k v') (upd gs k (gs k ++ [x])) (W'.setCell ⟨gL, k, none⟩ v') := by
  have hgl := h.o.lt gL rfl
  have hkl := (List.getElem?_eq_some_iff.1 hk).1
  have hq' : v'.ownBlock ≠ some gL := by
    rcases hloc with e | e
    · rw [e]; intro e2; exact h.q k v gL hk e2 rfl
    · rw [e]; intro e2; injection e2 with e2; omega
  have kp : ∀ b, b < W.heap.size → some b ≠ v.ownBlock → W'.heap[b]? = W.heap[b]? := fun b hb hn => (hg.block b (by omega) hn).trans (h1 b hb)
  have st : ∀ b, b ≠ gL → (W'.setCell ⟨gL, k, none⟩ v').heap[b]? = W'.heap[b]? := fun b hb => Below.heap_setCell _ _ _ _ (by show b ≠ gL; exact hb)
  have oW' : W'.ownsRow B 24 1 (.slice (some ⟨gL, 0, none⟩) vs.length cap) vs.length vs := own_at h.o fun b e => by
    have e2 : gL = b := by injection e
    subst e2
    exact kp gL hgl.2 (fun e3 => h.q k v gL hk e3.symm rfl)
  have key : ∀ j u, (vs.set k v')[j]? = some u → (j = k ∧ u = v') ∨ (j ≠ k ∧ vs[j]? = some u) := fun j u hj => by
    by_cases e : j = k
    · subst e; rw [List.getElem?_set_self hkl] at hj; injection hj with hj; exact Or.inl ⟨rfl, hj.symm⟩
    · rw [List.getElem?_set_ne (Ne.symm e)] at hj; exact Or.inr ⟨e, hj⟩
  refine ⟨?_, fun j u hj => ?_, fun j j' u u' b hj hj' hb hb' => ?_, fun j u b hj hb => ?_⟩
  · rw [List.length_set]; exact (oW'.stored k v').1
  · rcases key j u hj with ⟨rfl, rfl⟩ | ⟨hne, hu⟩
    · rw [upd_at, List.length_append, nZ_app, iC_app, nZ_one, iC_one]
      exact own_at ho fun b e => st b (fun e2 => hq' (by rw [e, e2]))
    · rw [upd_ne _ _ hne]
      have hr := h.r j u hu
      refine own_at hr fun b e => ?_
      rw [st b (fun e2 => h.q j u b hu e (by rw [e2]; rfl))]
      exact kp b (hr.lt b e).2 (fun e3 => hne (h.d j k u v b hu hk e e3.symm))
  · rcases key j u hj with ⟨rfl, rfl⟩ | ⟨hne, hu⟩
    · rcases key j' u' hj' with ⟨rfl, rfl⟩ | ⟨hne', hu'⟩
      · rfl
      · rcases hloc with e | e
        · exact h.d j j' v u' b hk hu' (by rw [← e]; exact hb) hb'
        · rw [e] at hb; injection hb with hb; have := ((h.r j' u' hu').lt b hb').2; omega
    · rcases key j' u' hj' with ⟨rfl, rfl⟩ | ⟨hne', hu'⟩
      · rcases hloc with e | e
        · exact h.d j j' u v b hu hk hb (by rw [← e]; exact hb')
        · rw [e] at hb'; injection hb' with hb'; have := ((h.r j u hu).lt b hb).2; omega
      · exact h.d j j' u u' b hu hu' hb hb'
  · rcases key j u hj with ⟨rfl, rfl⟩ | ⟨hne, hu⟩
    · intro e2; exact hq' (by rw [hb]; exact e2.symm)
    · exact h.q j u b hu hb
/-- the list's cells -/
theorem GL.cell {B gL cap n : Nat} {vs : List Value} {gs : Nat → List Nat} {W : World} (h : GL B (.slice (some ⟨gL, 0, none⟩) n cap) vs gs W) (hn : n = vs.length) (k : Nat) (hk : k < vs.length) : W.cell? ⟨gL, k, none⟩ = some vs[k] ∧ W.frozen? ⟨gL, k, none⟩ = false ∧ gL < W.heap.size ∧ B ≤ gL := by
  subst hn
  refine ⟨?_, h.o.frozenAt k, (h.o.lt gL rfl).2, (h.o.lt gL rfl).1⟩
  rw [h.o.cellAt k (by omega), List.getElem?_eq_getElem hk]
theorem infoInts : ∃ i, Try.prog.info? 24 = some i ∧ i.zero = some (.slice none 0 0) ∧ i.size = 1 ∧ i.bytes = 24 := info_parts (by kernel_rfl)
/-- what an append of one element onto a row of its own does, behind a draw or not -/
theorem app_run {B t e by_ n : Nat} {z : Value} (hz : ∃ i, Try.prog.info? e = some i ∧ i.zero = some z ∧ i.size = 1 ∧ i.bytes = by_) (ht : Try.prog.underlying t = some (.slice e)) (hzc : z.cells.size = 1) {W : World} {v x : Value} {xs : List Value} (h : W.ownsRow B e 1 v n xs) (hx : x.oneCell' = true) (hn : n ≤ 1000000) (hby : by_ ≤ 64) (hB : B ≤ W.heap.size) :
    ∃ g' cap' W', (∀ ty, (Builtin.append_ #[t, t] ty #[v, .slice (some ⟨W.heap.size, 0, none⟩) 1 1]).run Try.prog (W.alloc (.cells #[x] e)).drew = .ok (.slice (some ⟨g', 0, none⟩) (n + 1) cap') W') ∧ Hid (W'.ownsRow B e 1 (.slice (some ⟨g', 0, none⟩) (n + 1) cap') (n + 1) (xs ++ [x])) ∧ Hid ((W.alloc (.cells #[x] e)).drew.grownBy W' v.ownBlock) ∧ Hid ((Value.slice (some ⟨g', 0, none⟩) (n + 1) cap').ownBlock = v.ownBlock ∨ (Value.slice (some ⟨g', 0, none⟩) (n + 1) cap').ownBlock = some (W.alloc (.cells #[x] e)).drew.heap.size) := by
  obtain ⟨i, h1, h2, h3, h4⟩ := hz
  have hn' : ∀ j u, [x][j]? = some u → (W.alloc (.cells #[x] e)).drew.cell? ((⟨W.heap.size, 0, none⟩ : Addr).add j) = some u := fun j u hj => new1i W x e _ rfl j u hj
  have hmul : (n + 1) * by_ ≤ (n + 1) * 64 := Nat.mul_le_mul_left _ hby
  have run := fun ty => run_append_own_at (P := Try.prog) (W.alloc (.cells #[x] e)).drew B t ty e i z 1 by_ ht h1 h2 h3 h4 hzc (by decide) v n xs ((h.alloc _).drew) ⟨W.heap.size, 0, none⟩ 1 1 [x] rfl hn' (by intro u hu; simp at hu; subst hu; exact hx) (by unfold maxLen; omega) (by omega) (by show B ≤ (W.heap.push _).size; simp; omega)
  obtain ⟨v', W', r1, r2, r3, _, r5⟩ := run 3
  obtain ⟨g', cap', rfl⟩ := own_slice1 r2
  refine ⟨g', cap', W', fun ty => ?_, r2, r3, r5⟩
  exact r1
/-- an append whose run is known, within a region that draws -/
theorem step_app {P : Program} {ops : Array Oper} {o : Oper} {a : Act} {w : World} {K : Act → World → Prop} {Q : Exit → Act → World → Prop} {E : Prop}
    (hg : o.guard = none) (s x : Operand) (t : TypeId) (hop : o.op = Op.call { callee := Callee.builtin Builtin.append, args := #[s, x], argTypes := #[t, t] }) (v ad v' : Value) (w' : World)
    (hs : a.eval s = v) (hx : a.eval x = ad) (hr : (Builtin.append_ #[t, t] o.type #[v, ad]).run P w = .ok v' w') (hK : K (a.put o.dst v') w') :
    if Region.wanted o (yielded ops a.tmps) = true then Oper.wp P o a w K Q else E := by
  have hw : Region.wanted o (yielded ops a.tmps) = true := by simp [Region.wanted, hg]
  rw [if_pos hw]
  unfold Oper.wp execOp
  simp only [hop, resolve, invoke, builtin, Sem.run_bind, Sem.run_pure, Result.andThen_ok, List.map_toArray, List.map_cons, List.map_nil, hs, hx, hr]
  exact hK
end Go.Proofs.Ytkgonnnpoldcoaa
