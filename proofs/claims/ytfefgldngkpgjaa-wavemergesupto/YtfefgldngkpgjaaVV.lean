/- Layer 18: WaveParts, walked over what the program's functions tell. -/
import Derived.Test.YtfefgldngkpgjaaVU
import Derived.Deep.OwnRows
import Derived.Deep.RegionLaw
namespace Go.Proofs.Ytfefgldngkpgjaa
set_option maxRecDepth 100000
open Go.RowKit Lg Nl Go.Maps Wf
set_option linter.unusedVariables false
set_option linter.unusedSimpArgs false

/-- rows of changes, in memory -/
def PsAt (w : World) (v : Value) (ps : List (List Ch)) : Prop :=
  ∃ ao cap, v = .slice ao ps.length cap ∧ ps.length ≤ cap ∧ (ps = [] ∨ ∃ g o, ao = some ⟨g, o, none⟩ ∧ g < w.heap.size ∧ ∀ i (h : i < ps.length), ∃ u, w.cell? ⟨g, o + i, none⟩ = some u ∧ ChAt w u ps[i])
theorem PsAt.below {w w' : World} {v : Value} {ps : List (List Ch)} (h : PsAt w v ps) (hb : Below w.heap.size w w') : PsAt w' v ps := by
  obtain ⟨ao, cap, rfl, hc, h⟩ := h
  refine ⟨ao, cap, rfl, hc, ?_⟩
  rcases h with h | ⟨g, o, rfl, hg, h⟩
  · exact Or.inl h
  · refine Or.inr ⟨g, o, rfl, Nat.lt_of_lt_of_le hg hb.size, fun i hi => ?_⟩
    obtain ⟨u, h1, h2⟩ := h i hi
    exact ⟨u, by rw [hb.cell (p := ⟨g, o + i, none⟩) hg]; exact h1, h2.below hb⟩
def withL (x : Wv) (l : List Ch) : Wv := ⟨x.nm, x.wd, x.fi, l⟩
def okM (x : Wv) (ps : List (List Ch)) : Bool := mayW x && x.li.isEmpty && mayW (withL x (mergeL ps))
def MergeC : Prop := ∀ (x : Wv) (vn vw vf vl vp : Value) (ps : List (List Ch)) (w : World), Wi w vn vw vf vl x → PsAt w vp ps → ps.flatten.length ≤ 4398046511000 → ps.length ≤ 4398046511000 → (∀ p ∈ ps, ∀ c ∈ p, c.v.size ≤ maxLen) →
  Calls Try.prog 19 #[.agg #[vn, vw, vf, vl], vp] w fun e w' => ∃ un uw uf ul, e = .returned (.tuple #[.agg #[un, uw, uf, ul], .int .i64 (erOf (okM x ps))]) ∧ Hid (WvAt w' un uw uf ul (if okM x ps then withL x (mergeL ps) else wv0)) ∧ Below w.heap.size w w'
/-- a list vL whose elements vs are the rows gs of changes, all in blocks of their own -/
structure GC (B : Nat) (vL : Value) (vs : List Value) (gs : Nat → List Ch) (W : World) : Prop where
  o : W.ownsRow B 24 1 vL vs.length vs
  r : ∀ (k : Nat) v, vs[k]? = some v → W.ownsRow B 46 3 v (gs k).length (chs (gs k))
  d : ∀ (k k' : Nat) v v' b, vs[k]? = some v → vs[k']? = some v' → v.ownBlock = some b → v'.ownBlock = some b → k = k'
  q : ∀ (k : Nat) v b, vs[k]? = some v → v.ownBlock = some b → vL.ownBlock ≠ some b
theorem GC.keep {B : Nat} {vL : Value} {vs : List Value} {gs : Nat → List Ch} {W W' : World} (h : GC B vL vs gs W) (hb : ∀ k, B ≤ k → k < W.heap.size → W'.heap[k]? = W.heap[k]?) : GC B vL vs gs W' :=
  ⟨own_at2 h.o fun k e => hb k (h.o.lt k e).1 (h.o.lt k e).2, fun k v hk => own_at2 (h.r k v hk) fun q e => hb q ((h.r k v hk).lt q e).1 ((h.r k v hk).lt q e).2, h.d, h.q⟩
theorem GC.congr {B : Nat} {vL : Value} {vs : List Value} {gs gs' : Nat → List Ch} {W : World} (h : GC B vL vs gs W) (e : ∀ k, k < vs.length → gs k = gs' k) : GC B vL vs gs' W :=
  ⟨h.o, fun k v hk => by have hl := (List.getElem?_eq_some_iff.1 hk).1; rw [← e k hl]; exact h.r k v hk, h.d, h.q⟩
/-- an element more of one of the lists, which is stored back -/
theorem GC.app {B gL cap : Nat} {vs : List Value} {gs gs' : Nat → List Ch} {W W1 W' : World} {k : Nat} {c : Ch} {v v' : Value} (h : GC B (.slice (some ⟨gL, 0, none⟩) vs.length cap) vs gs W) (hk : vs[k]? = some v) (h1 : ∀ j, j < W.heap.size → W1.heap[j]? = W.heap[j]?) (hs : W.heap.size ≤ W1.heap.size)
    (ho : W'.ownsRow B 46 3 v' ((gs k).length + 1) (chs (gs k) ++ chC c)) (hg : W1.grownBy W' v.ownBlock) (hloc : v'.ownBlock = v.ownBlock ∨ v'.ownBlock = some W1.heap.size) (e1 : gs' k = gs k ++ [c]) (e2 : ∀ j, j ≠ k → gs' j = gs j) :
    GC B (.slice (some ⟨gL, 0, none⟩) vs.length cap) (vs.set k v') gs' (W'.setCell ⟨gL, k, none⟩ v') := by
  have hgl := h.o.lt gL rfl
  have hkl := (List.getElem?_eq_some_iff.1 hk).1
  have hq' : v'.ownBlock ≠ some gL := by
    rcases hloc with e | e
    · rw [e]; intro e2; exact h.q k v gL hk e2 rfl
    · rw [e]; intro e2; injection e2 with e2; omega
  have kp : ∀ b, b < W.heap.size → some b ≠ v.ownBlock → W'.heap[b]? = W.heap[b]? := fun b hb hn => (hg.block b (by omega) hn).trans (h1 b hb)
  have st : ∀ b, b ≠ gL → (W'.setCell ⟨gL, k, none⟩ v').heap[b]? = W'.heap[b]? := fun b hb => Below.heap_setCell _ _ _ _ (by show b ≠ gL; exact hb)
  have oW' : W'.ownsRow B 24 1 (.slice (some ⟨gL, 0, none⟩) vs.length cap) vs.length vs := own_at2 h.o fun b e => by
    have e2 : gL = b := by injection e
    subst e2
    exact kp gL hgl.2 (fun e3 => h.q k v gL hk e3.symm rfl)
  have key : ∀ j u, (vs.set k v')[j]? = some u → (j = k ∧ u = v') ∨ (j ≠ k ∧ vs[j]? = some u) := fun j u hj => by
    by_cases e : j = k
    · subst e; rw [List.getElem?_set_self hkl] at hj; injection hj with hj; exact Or.inl ⟨rfl, hj.symm⟩
    · rw [List.getElem?_set_ne (Ne.symm e)] at hj; exact Or.inr ⟨e, hj⟩
  refine ⟨?_, fun j u hj => ?_, fun j j' u u' b hj hj' hb hb' => ?_, fun j u b hj hb => ?_⟩
  · rw [List.length_set]; exact (oW'.stored k v').1
  · rcases key j u hj with ⟨rfl, rfl⟩ | ⟨hne, hu⟩
    · rw [e1, List.length_append, chs_app]
      refine own_at2 (w := W') ?_ fun b e => st b (fun e2 => hq' (by rw [e, e2]))
      have := ho
      simpa [chs] using this
    · rw [e2 j hne]
      have hr := h.r j u hu
      refine own_at2 hr fun b e => ?_
      rw [st b (fun e2 => h.q j u b hu e (by rw [e2]; rfl))]
      exact kp b (hr.lt b e).2 (fun e3 => hne (h.d j k u v b hu hk e e3.symm))
  · rcases key j u hj with ⟨rfl, rfl⟩ | ⟨hne, hu⟩
    · rcases key j' u' hj' with ⟨rfl, rfl⟩ | ⟨hne', hu'⟩
      · rfl
      · rcases hloc with e | e
        · exact h.d j j' v u' b hk hu' (by rw [← e]; exact hb) hb'
        · rw [e] at hb; injection hb with hb; have := ((h.r j' u' hu').lt b hb').2; omega
    · rcases key j' u' hj' with ⟨rfl, rfl⟩ | ⟨hne', hu'⟩
      · rcases hloc with e | e
        · exact h.d j j' u v b hu hk hb (by rw [← e]; exact hb')
        · rw [e] at hb'; injection hb' with hb'; have := ((h.r j u hu).lt b hb).2; omega
      · exact h.d j j' u u' b hu hu' hb hb'
  · rcases key j u hj with ⟨rfl, rfl⟩ | ⟨hne, hu⟩
    · intro e2; exact hq' (by rw [hb]; exact e2.symm)
    · exact h.q j u b hu hb
theorem GC.cell {B gL cap n : Nat} {vs : List Value} {gs : Nat → List Ch} {W : World} (h : GC B (.slice (some ⟨gL, 0, none⟩) n cap) vs gs W) (hn : n = vs.length) (k : Nat) (hk : k < vs.length) : W.cell? ⟨gL, k, none⟩ = some vs[k] ∧ W.frozen? ⟨gL, k, none⟩ = false ∧ gL < W.heap.size ∧ B ≤ gL := by
  subst hn
  refine ⟨?_, h.o.frozenAt k, (h.o.lt gL rfl).2, (h.o.lt gL rfl).1⟩
  rw [h.o.cellAt k (by omega), List.getElem?_eq_getElem hk]
theorem GC.ps {B gL cap n : Nat} {vs : List Value} {l : List Ch} {W : World} (h : GC B (.slice (some ⟨gL, 0, none⟩) n cap) vs (prt n l) W) (hn : n = vs.length) (hc : n ≤ cap) : PsAt W (.slice (some ⟨gL, 0, none⟩) n cap) (prts n l) := by
  refine ⟨_, cap, by rw [prts_len], by rw [prts_len]; exact hc, Or.inr ⟨gL, 0, rfl, (h.o.lt gL rfl).2, fun i hi => ?_⟩⟩
  rw [prts_len] at hi
  obtain ⟨c, _, _, _⟩ := h.cell hn i (by omega)
  refine ⟨vs[i]'(by omega), by rw [Nat.zero_add]; exact c, ?_⟩
  rw [prts_at hi]
  exact own_chs (h.r i _ (List.getElem?_eq_getElem (by omega)))
theorem mkParts (n : Nat) (hn : n ≤ 8) : ∀ w : World, (Instr.makeSlice 41 (.int .i64 (n : Int)) (.int .i64 (n : Int))).run Try.prog w = .ok (.slice (some ⟨w.heap.size, 0, none⟩) n n) (w.alloc (.cells (madeCells #[.slice none 0 0] n) 24)) := fun w =>
  run_make_row' (P := Try.prog) 41 24 (.slice none 0 0) 24 Try.underlying41 (by kernel_rfl) rfl .i64 .i64 n (by omega) (by omega) w
theorem GC.start (n : Nat) (hn : n ≤ 8) (W : World) (B : Nat) (hB : B ≤ W.heap.size) : GC B (.slice (some ⟨W.heap.size, 0, none⟩) n n) (List.replicate n (Value.slice none 0 0)) (prt n []) (W.alloc (.cells (madeCells #[Value.slice none 0 0] n) 24)) := by
  have hv : ∀ (k : Nat) (v : Value), (List.replicate n (Value.slice none 0 0))[k]? = some v → v = .slice none 0 0 := fun k v h => by
    rw [List.getElem?_replicate] at h
    split at h
    · injection h with h; exact h.symm
    · cases h
  have hm : (madeCells #[Value.slice none 0 0] n).toList = List.replicate n (Value.slice none 0 0) := by
    apply List.ext_getElem
    · simp [madeCells]
    · intro i h1 h2
      simp [madeCells, Nat.mod_one]
  refine ⟨⟨by simp, Or.inr ⟨W.heap.size, n, madeCells #[Value.slice none 0 0] n, by rw [List.length_replicate], hB, alAt rfl, by rw [List.length_replicate]; exact Nat.le_refl _, by unfold maxLen; omega, by rw [size_madeCells, Nat.mul_one], ?_⟩⟩, fun k v hk => ?_, fun k k' v v' b hk hk' hb hb' => ?_, fun k v b hk hb => ?_⟩
  · rw [hm, List.length_replicate, Nat.mul_one]; simp
  · rw [hv k v hk]; exact World.ownsRow_nil _ _ _ _
  · rw [hv k v hk] at hb; cases hb
  · rw [hv k v hk] at hb; cases hb
theorem wrV (n : Int) (h₀ : 0 ≤ n) (h₁ : n < 2 ^ 63) : IntKind.i64.wrap n = n := by rw [IntKind.wrap_i64]; omega
theorem maskV (n : Int) (W M : Nat) (hW : W ≤ 62) (hM : M = 2 ^ W - 1) : bits .and .i64 n (M : Int) = n % ((2 ^ W : Nat) : Int) := by
  have hp : 0 < 2 ^ W := Nat.two_pow_pos W
  have hle : 2 ^ W ≤ 2 ^ 62 := Nat.pow_le_pow_right (by decide) hW
  have hm : (BitVec.ofInt 64 (M : Int)).toNat = 2 ^ W - 1 := by
    rw [BitVec.ofInt_natCast, BitVec.toNat_ofNat, hM]; exact Nat.mod_eq_of_lt (by omega)
  have key : (BitVec.ofInt 64 n &&& BitVec.ofInt 64 (M : Int)).toNat = (n % ((2 ^ 64 : Nat) : Int)).toNat % 2 ^ W := by
    rw [BitVec.toNat_and, BitVec.toNat_ofInt, hm, Nat.and_two_pow_sub_one_eq_mod]
  show IntKind.i64.wrap ((BitVec.ofInt 64 n &&& BitVec.ofInt 64 (M : Int)).toNat : Nat) = _
  have hlt : (n % ((2 ^ 64 : Nat) : Int)).toNat % 2 ^ W < 2 ^ W := Nat.mod_lt _ hp
  rw [key, wrV _ (by omega) (by omega), Int.natCast_emod, Int.toNat_of_nonneg (Int.emod_nonneg _ (by decide))]
  exact Int.emod_emod_of_dvd n (Int.natCast_dvd_natCast.2 (Nat.pow_dvd_pow 2 (by omega)))
theorem manyN (many : Int) : ∃ n : Nat, wrap64 (1 + bits .and .i64 many 7) = (n : Int) ∧ 1 ≤ n ∧ n ≤ 8 := by
  have h : bits .and .i64 many 7 = many % 8 := maskV many 3 7 (by decide) (by decide)
  refine ⟨(1 + many % 8).toNat, ?_, by omega, by omega⟩
  rw [h]; unfold wrap64; omega
theorem may_bare {x : Wv} (h : mayW x = true) : mayW (withL x []) = true := by
  obtain ⟨h1, h2, h3⟩ := may_parts h
  unfold mayW
  rw [Bool.and_eq_true, Bool.and_eq_true]
  exact ⟨⟨h1, h2⟩, rfl⟩
theorem Wi.bare {w : World} {vn vw vf vl : Value} {x : Wv} (h : Wi w vn vw vf vl x) : Wi w vn vw vf (.slice none 0 0) (withL x []) :=
  ⟨⟨h.a.nm, h.a.wd, h.a.fi, ⟨none, 0, rfl, ⟨Nat.le_refl _, fun _ => rfl⟩, Or.inl rfl⟩⟩, ⟨h.z.nm, h.z.fi, fun c hc => (by cases hc), Nat.zero_le _⟩, ⟨h.b.nm, h.b.wd, h.b.fi, Nat.zero_le _⟩, Nat.zero_le _⟩
theorem may_merge {n : Nat} {x : Wv} (hn : 1 ≤ n) (h : mayW x = true) : mergeL (prts n x.li) = x.li :=
  merge_parts hn (ls_srt x.wd x.li none x.fi (may_parts h).2.2).1 fun c hc => (may_nets h c hc).1
theorem okM_yes {n : Nat} {x : Wv} (hn : 1 ≤ n) (h : mayW x = true) : okM (withL x []) (prts n x.li) = true := by
  unfold okM
  rw [may_merge hn h, may_bare h]
  show (true && true && mayW x) = true
  rw [h]; rfl
theorem Wi.merge {w u : World} {vn vw vf vp un uw uf ul : Value} {x : Wv} {n : Nat} (hMe : MergeC) (h : Wi w vn vw vf (.slice none 0 0) (withL x [])) (hp : PsAt w vp (prts n x.li)) (h1 : 1 ≤ n) (h8 : n ≤ 8) (hm : mayW x = true) (hx : Wi u un uw uf ul x) : Calls Try.prog 19 #[.agg #[vn, vw, vf, .slice none 0 0], vp] w fun e w' => ∃ an cn av cv af cf al cl, e = .returned (.tuple #[.agg #[.slice an x.nm.length cn, .slice av x.wd.length cv, .slice af x.fi.length cf, .slice al x.li.length cl], .int .i64 0]) ∧ Hid (Wi w' (.slice an x.nm.length cn) (.slice av x.wd.length cv) (.slice af x.fi.length cf) (.slice al x.li.length cl) x) ∧ Below w.heap.size w w' := by
  refine (hMe (withL x []) vn vw vf _ vp (prts n x.li) w h hp ?_ ?_ ?_).mono ?_
  · rw [prts_total h1 (ls_srt x.wd x.li none x.fi (may_parts hm).2.2).1 fun c hc => (may_nets hm c hc).1]
    exact hx.l
  · rw [prts_len]; omega
  · intro p hp c hc
    obtain ⟨k, _, rfl⟩ := List.mem_map.1 hp
    exact hx.z.li c (prt_mem.1 hc).1
  · rintro e w' ⟨un, uw, uf, ul, rfl, hw, hb⟩
    rw [okM_yes h1 hm, if_pos rfl, may_merge h1 hm] at hw
    have hw' : WvAt w' un uw uf ul x := hw.out
    obtain ⟨an, cn, rfl, _, _⟩ := hw'.nm
    obtain ⟨av, cv, rfl, _, _⟩ := hw'.wd
    obtain ⟨af, cf, rfl, _, _⟩ := hw'.fi
    obtain ⟨al, cl, rfl, _, _⟩ := hw'.li
    exact ⟨an, cn, av, cv, af, cf, al, cl, by rw [okM_yes h1 hm]; rfl, ⟨hw', hx.z, hx.b, hx.l⟩, hb⟩
/-- an append whose run is known, within a region that draws -/
theorem step_appC {P : Program} {ops : Array Oper} {o : Oper} {a : Act} {w : World} {K : Act → World → Prop} {Q : Exit → Act → World → Prop} {E : Prop}
    (hg : o.guard = none) (s x : Operand) (t : TypeId) (hop : o.op = Op.call { callee := Callee.builtin Builtin.append, args := #[s, x], argTypes := #[t, t] }) (v ad v' : Value) (w' : World)
    (hs : a.eval s = v) (hx : a.eval x = ad) (hr : (Builtin.append_ #[t, t] o.type #[v, ad]).run P w = .ok v' w') (hK : K (a.put o.dst v') w') :
    if Region.wanted o (yielded ops a.tmps) = true then Oper.wp P o a w K Q else E := by
  have hw : Region.wanted o (yielded ops a.tmps) = true := by simp [Region.wanted, hg]
  rw [if_pos hw]
  unfold Oper.wp execOp
  simp only [hop, resolve, invoke, builtin, Sem.run_bind, Sem.run_pure, Result.andThen_ok, List.map_toArray, List.map_cons, List.map_nil, hs, hx, hr]
  exact hK
theorem kP_wr {n : Nat} {y : Ch} (h1 : 1 ≤ n) (h8 : n ≤ 8) (h0 : 0 ≤ y.n) : wrap64 (wrap64 ((n : Int) - 1) - y.n % (n : Int)) = (kP n y : Int) := by
  obtain ⟨q, hq⟩ : ∃ q : Nat, y.n = (q : Int) := ⟨y.n.toNat, by omega⟩
  unfold kP
  rw [hq, Int.toNat_natCast]
  have hr : ((q : Int) % (n : Int)) = ((q % n : Nat) : Int) := by rw [Int.natCast_emod]
  rw [hr]
  have := Nat.mod_lt q (show 0 < n by omega)
  generalize q % n = r at *
  unfold wrap64
  omega
theorem newC (w : World) (c : Ch) (t : TypeId) (n : Nat) (hn : w.heap.size = n) (j : Nat) (u : Value) (h : (chC c)[j]? = some u) : (w.alloc (.cells #[.int .i64 c.t, .int .i64 c.n, .string c.v] t)).drew.cell? ((⟨n, 0, none⟩ : Addr).add j) = some u := new3 w c t n hn j u h
/-- what an append of one change onto a row of its own does, behind a draw -/
theorem app_runC {B n : Nat} (c : Ch) {W : World} {v : Value} {xs : List Value} (h : W.ownsRow B 46 3 v n xs) (hn : n ≤ 4398046511000) (hB : B ≤ W.heap.size) :
    ∃ g' cap' W', (∀ ty, (Builtin.append_ #[24, 24] ty #[v, .slice (some ⟨W.heap.size, 0, none⟩) 1 1]).run Try.prog (W.alloc (.cells #[.int .i64 c.t, .int .i64 c.n, .string c.v] 46)).drew = .ok (.slice (some ⟨g', 0, none⟩) (n + 1) cap') W') ∧ Hid (W'.ownsRow B 46 3 (.slice (some ⟨g', 0, none⟩) (n + 1) cap') (n + 1) (xs ++ chC c)) ∧ Hid ((W.alloc (.cells #[.int .i64 c.t, .int .i64 c.n, .string c.v] 46)).drew.grownBy W' v.ownBlock) ∧ Hid ((Value.slice (some ⟨g', 0, none⟩) (n + 1) cap').ownBlock = v.ownBlock ∨ (Value.slice (some ⟨g', 0, none⟩) (n + 1) cap').ownBlock = some (W.alloc (.cells #[.int .i64 c.t, .int .i64 c.n, .string c.v] 46)).drew.heap.size) := by
  obtain ⟨i, h1, h2, h3, h4⟩ := infoCh
  have run := fun ty => run_append_own_at (P := Try.prog) (W.alloc (.cells #[.int .i64 c.t, .int .i64 c.n, .string c.v] 46)).drew B 24 ty 46 i _ 3 32 Try.underlying24 h1 h2 h3 h4 rfl (by decide) v n xs ((h.alloc _).drew) ⟨W.heap.size, 0, none⟩ 1 1 (chC c) rfl (fun j u hj => newC W c _ _ rfl j u hj) (one3 c) (by unfold maxLen; omega) (by omega) (by show B ≤ (W.heap.push _).size; simp; omega)
  obtain ⟨v', W', r1, r2, r3, _, r5⟩ := run 3
  obtain ⟨g', cap', rfl⟩ := own_slice1 r2
  exact ⟨g', cap', W', fun ty => r1, r2, r3, r5⟩
set_option maxHeartbeats 4000000 in
set_option maxRecDepth 1000000 in
theorem WaveParts_c (P : PC) (hMe : MergeC) (x : Wv) (vn vw vf vl : Value) (many : Int) (w : World) (hx : Wi w vn vw vf vl x) : Calls Try.prog 7 #[.agg #[vn, vw, vf, vl], .int .i64 many] w fun e w' => e = .returned (.bool true) ∧ Below w.heap.size w w' := by
  have HP : Hid PC := P
  have HMe : Hid MergeC := hMe
  have HA : Hid (Wi w vn vw vf vl x) := hx
  clear P hx hMe
  obtain ⟨W0, hW0⟩ : ∃ W0, W0 = w.alloc (.cells #[vn, vw, vf, vl] 26) := ⟨_, rfl⟩
  have HB0 : Hid (Below w.heap.size w W0) := by rw [hW0]; exact belA (Below.refl _ _) _
  have HX0 : Hid (W0.heap[w.heap.size]? = some (.cells #[vn, vw, vf, vl] 26 (0, 0))) := by rw [hW0]; exact alAt rfl
  have HA0 : Hid (Wi W0 vn vw vf vl x) := HA.out.below HB0.out
  go_enter Try.func7, Try.ntmps7
  go_upto_region 1 with fail
  rw [← hW0]
  clear hW0 HA
  obtain ⟨b0, b1, b2, b3⟩ := cells4 HX0.out
  have lb := hLt HX0.out
  obtain ⟨E, hE⟩ : ∃ E, E = w.heap.size := ⟨_, rfl⟩
  rw [← hE] at HX0 b0 b1 b2 b3 lb ⊢
  clear hE
  cases hm : mayW x
  · have HM : Hid (mayW x = false) := hm
    clear hm
    go_upto_region 2 with (first
      | (go_at_call 10; refine (HA0.out.may HM.out).mono ?_; rintro e w1 ⟨rfl, hb1⟩))
    clear b0 b1 b2 b3
    obtain ⟨b0, b1, b2, b3⟩ := cells4 ((hb1.block E lb).trans HX0.out)
    have lb1 := Nat.lt_of_lt_of_le lb hb1.size
    go_wp2_with (first
      | (go_at_call 9; refine ((HA0.out.below hb1).check HP.out HM.out).mono ?_; rintro e w2 ⟨rfl, hb2⟩; rw [erOf_f])
      | (go_at_call 11; refine (HP.out.aw _).mono ?_; rintro e w4 ⟨rfl, hb4⟩))
    go_ret
    exact ⟨rfl, bel HB0.out (bel hb1 (bel hb2 hb4))⟩
  have HM : Hid (mayW x = true) := hm
  clear hm
  go_upto_region 3 with (first
    | (go_at_call 10; refine (HA0.out.may HM.out).mono ?_; rintro e w1 ⟨rfl, hb1⟩))
  have HA1 : Hid (Wi w1 vn vw vf vl x) := HA0.out.below hb1
  have HX1 : Hid (w1.heap[E]? = some (.cells #[vn, vw, vf, vl] 26 (0, 0))) := (hb1.block E lb).trans HX0.out
  have HBw : Hid (Below w.heap.size w w1) := bel HB0.out hb1
  clear hb1 HB0 HA0 HX0 lb b0 b1 b2 b3
  have lb := hLt HX1.out
  obtain ⟨n, hn, n1, n8⟩ := manyN many
  have HN : Hid (1 ≤ n ∧ n ≤ 8) := ⟨n1, n8⟩
  go_upto_region 4 with fail
  rw [hn]
  clear hn n1 n8
  have hmk := mkParts n HN.out.2
  obtain ⟨gL, hgL⟩ : ∃ gL, gL = w1.heap.size := ⟨_, rfl⟩
  obtain ⟨W1, hW1⟩ : ∃ W1, W1 = w1.alloc (.cells (madeCells #[.slice none 0 0] n) 24) := ⟨_, rfl⟩
  have HG1 : Hid (GC w1.heap.size (.slice (some ⟨gL, 0, none⟩) n n) (List.replicate n (Value.slice none 0 0)) (prt n []) W1) := by rw [hW1, hgL]; exact GC.start n HN.out.2 w1 w1.heap.size (Nat.le_refl _)
  have HB1 : Hid (Below w1.heap.size w1 W1) := by rw [hW1]; exact belA (Below.refl _ _) _
  obtain ⟨al, cl, hvl⟩ : ∃ al cl, vl = .slice al x.li.length cl := by obtain ⟨al, cl, h, _, _⟩ := HA1.out.a.li; exact ⟨al, cl, h⟩
  obtain ⟨an, cn, hvn⟩ : ∃ an cn, vn = .slice an x.nm.length cn := by obtain ⟨al, cl, h, _, _⟩ := HA1.out.a.nm; exact ⟨al, cl, h⟩
  obtain ⟨av, cv, hvw⟩ : ∃ av cv, vw = .slice av x.wd.length cv := by obtain ⟨al, cl, h, _, _⟩ := HA1.out.a.wd; exact ⟨al, cl, h⟩
  obtain ⟨af, cf, hvf⟩ : ∃ af cf, vf = .slice af x.fi.length cf := by obtain ⟨al, cl, h, _, _⟩ := HA1.out.a.fi; exact ⟨al, cl, h⟩
  subst hvl hvn hvw hvf
  go_upto_region 5 with fail
  rw [← hW1, ← hgL]
  clear hW1 hmk hgL
  go_wp2_with fail
  go_loopg [7] x.li.length (fun g s wr => ∃ (i : Nat) (vs : List Value), i ≤ x.li.length ∧ g = x.li.length - i ∧ s = .int .i64 i ∧ Hid (n = vs.length) ∧ Hid (GC w1.heap.size (.slice (some ⟨gL, 0, none⟩) n n) vs (prt n (x.li.take i)) wr) ∧ Hid (Below w1.heap.size w1 wr))
  case atStart => exact ⟨0, List.replicate n (Value.slice none 0 0), Nat.zero_le _, rfl, rfl, (List.length_replicate).symm, HG1.out, HB1.out⟩
  case round =>
    obtain ⟨i, vs, hi, rfl, rfl, HVn, HG, HBq⟩ := hrel
    obtain ⟨wq, hwq⟩ : ∃ wq, wq = wr := ⟨_, rfl⟩
    rw [← hwq] at HBq HG ⊢
    clear hwq
    obtain ⟨b0, b1, b2, b3⟩ := cells4 ((HBq.out.block E lb).trans HX1.out)
    have lbq := Nat.lt_of_lt_of_le lb HBq.out.size
    by_cases hin : i < x.li.length
    · obtain ⟨gl, ol, hq, hgl, c0, c1, c2⟩ := (HA1.out.a.li.below HBq.out).at_ i hin
      subst hq
      have hnet := may_nets HM.out _ (cA_mem hin)
      have i0 : (0 : Int) ≤ (i : Int) := by omega
      have i1 : (i : Int) < (x.li.length : Int) := by omega
      obtain ⟨y, hy⟩ : ∃ y, y = cA x.li i := ⟨_, rfl⟩
      have HYi : Hid (y = cA x.li i) := hy
      rw [← hy] at c0 c1 c2 hnet
      clear hy
      have HK : Hid (kP n y < n) := kP_lt (by have := HN.out.1; omega) y
      have hkp : wrap64 (wrap64 ((n : Int) - 1) - y.n % (n : Int)) = (kP n y : Int) := kP_wr HN.out.1 HN.out.2 hnet.1
      have hn0 : ¬ n = 0 := by have := HN.out.1; omega
      have hy0 := hnet.1
      clear hnet
      go_upto_region 9 with fail
      rw [hkp]
      clear hkp hn0 hy0
      generalize hk : kP n y = k at *
      have HKy : Hid (kP n y = k) := hk
      clear hk
      have HKl : Hid (k < vs.length) := by rw [← HVn.out]; exact HK.out
      obtain ⟨cL, fL, hgL, hBg⟩ := HG.out.cell HVn.out k HKl.out
      have hrow := HG.out.r k _ (List.getElem?_eq_getElem HKl.out)
      obtain ⟨v, hv⟩ : ∃ v, v = vs[k]'(HKl.out) := ⟨_, rfl⟩
      rw [← hv] at cL hrow
      have HVK : Hid (vs[k]? = some v) := by rw [hv]; exact List.getElem?_eq_getElem HKl.out
      clear hv
      obtain ⟨m, hm⟩ : ∃ m, m = (prt n (x.li.take i) k).length := ⟨_, rfl⟩
      have HMl : Hid (m = (prt n (x.li.take i) k).length) := hm
      rw [← hm] at hrow
      obtain ⟨va, vcap, rfl⟩ : ∃ va vcap, v = .slice va m vcap := by
        rcases hrow.2 with ⟨rfl, h0⟩ | ⟨g, cap, cur, rfl, _⟩
        · exact ⟨none, 0, by rw [h0]⟩
        · exact ⟨_, _, rfl⟩
      have hml : m ≤ 4398046511000 := by
        rw [hm]
        refine Nat.le_trans (List.length_filter_le _ _) (Nat.le_trans (List.length_take_le' _ _) HA1.out.l)
      obtain ⟨yt, yn, yv⟩ := y
      simp only at c0 c1 c2
      obtain ⟨g9, cap9, W9, hrun, HO9, HG9, HLoc9⟩ := app_runC ⟨yt, yn, yv⟩ hrow hml (Nat.le_of_lt (Nat.lt_of_le_of_lt hBg hgL))
      simp only at hrun HO9 HG9 HLoc9
      have kp9 : ∀ b, b < wq.heap.size → some b ≠ (Value.slice va m vcap).ownBlock → W9.heap[b]? = wq.heap[b]? := fun b hb hne => (HG9.out.block b (by show b < (wq.heap.push _).size; simp; omega) hne).trans (alOld hb)
      have hneL : some gL ≠ (Value.slice va m vcap).ownBlock := fun e => HG.out.q k _ gL HVK.out e.symm rfl
      have hneO : ∀ b, b < w1.heap.size → some b ≠ (Value.slice va m vcap).ownBlock := fun b hb e => by have := (hrow.lt b e.symm).1; omega
      have cL9 : W9.cell? ⟨gL, k, none⟩ = some (.slice va m vcap) := (World.cell?_of_block (w := wq) (a := ⟨gL, k, none⟩) (kp9 gL hgL hneL)).trans cL
      have fL9 : W9.frozen? ⟨gL, k, none⟩ = false := (World.frozen?_of_block (w := wq) (a := ⟨gL, k, none⟩) (kp9 gL hgL hneL)).trans fL
      have es9 : (wq.alloc (.cells #[.int .i64 yt, .int .i64 yn, .string yv] 46)).drew.heap.size = wq.heap.size + 1 := by show (wq.heap.push _).size = _; simp
      have hs9 := HG9.out.size
      rw [es9] at hs9
      have hgl9 : gL < W9.heap.size := by omega
      have KP9 : Hid (∀ b, b < w1.heap.size → W9.heap[b]? = wq.heap[b]?) := fun b hb => kp9 b (by have := HBq.out.size; omega) (hneO b hb)
      have HH : Hid (GC w1.heap.size (.slice (some ⟨gL, 0, none⟩) n n) (vs.set k (.slice (some ⟨g9, 0, none⟩) (m + 1) cap9)) (prt n (x.li.take (i + 1))) (W9.setCell ⟨gL, k, none⟩ (.slice (some ⟨g9, 0, none⟩) (m + 1) cap9))) := by
        have h0 := HG.out
        rw [HVn.out] at h0 ⊢
        rw [← HVn.out]
        rw [← HVn.out] at h0
        have ht : x.li.take (i + 1) = x.li.take i ++ [⟨yt, yn, yv⟩] := by rw [List.take_add_one, List.getElem?_eq_getElem hin, HYi.out, cA_at hin]; rfl
        have h1 := GC.app (gs' := prt n (x.li.take (i + 1))) (c := ⟨yt, yn, yv⟩) (k := k) (v' := .slice (some ⟨g9, 0, none⟩) (m + 1) cap9) (cap := n) (by rw [← HVn.out]; exact h0) HVK.out (W1 := (wq.alloc (.cells #[.int .i64 yt, .int .i64 yn, .string yv] 46)).drew) (fun j hj => alOld hj) (by show wq.heap.size ≤ (wq.heap.push _).size; simp) (by rw [← HMl.out]; exact HO9.out) HG9.out HLoc9.out (by rw [ht, prt_app, if_pos HKy.out]) (fun j hj => by rw [ht, prt_app, if_neg (fun e => hj (by rw [← e, HKy.out]))])
        rw [← HVn.out] at h1
        exact h1
      have HBB9 : Hid (Below w1.heap.size w1 (W9.setCell ⟨gL, k, none⟩ (.slice (some ⟨g9, 0, none⟩) (m + 1) cap9))) := ⟨HG9.out.os.trans HBq.out.os, HG9.out.tape.trans HBq.out.tape, HG9.out.output.trans HBq.out.output, by rw [show (W9.setCell ⟨gL, k, none⟩ (.slice (some ⟨g9, 0, none⟩) (m + 1) cap9)).heap.size = W9.heap.size by simp [World.setCell]]; have := HBq.out.size; omega, fun b hb => ((Below.heap_setCell _ _ _ _ (by show b ≠ gL; omega)).trans (KP9.out b hb)).trans (HBq.out.block b hb)⟩
      have k1 : (0 : Int) ≤ (k : Int) := by omega
      have k2 : (k : Int) < (n : Int) := by have := HK.out; omega
      have hnV : (vs.set k (.slice (some ⟨g9, 0, none⟩) (m + 1) cap9)).length = n := by rw [List.length_set]; exact HVn.out.symm
      have HVs : Hid (n = (vs.set k (.slice (some ⟨g9, 0, none⟩) (m + 1) cap9)).length) := hnV.symm
      have hrun' := hrun 24
      have HRun : Hid (∀ ty, (Builtin.append_ #[24, 24] ty #[.slice va m vcap, .slice (some ⟨wq.heap.size, 0, none⟩) 1 1]).run Try.prog (wq.alloc (.cells #[.int .i64 yt, .int .i64 yn, .string yv] 46)).drew = .ok (.slice (some ⟨g9, 0, none⟩) (m + 1) cap9) W9) := hrun
      clear hrow kp9 hneL hneO hs9 es9 HO9 HG9 HLoc9 KP9 hBg hm hml hnV hrun hrun' HMl
      go_region_law (refine step_appC rfl _ _ 24 rfl (.slice va m vcap) (.slice (some ⟨wq.heap.size, 0, none⟩) 1 1) (.slice (some ⟨g9, 0, none⟩) (m + 1) cap9) W9 (by simp [Act.eval, Act.put]) (by simp [Act.eval, Act.put]) (HRun.out _) ?_)
      all_goals (
        go_wp2_with fail
        go_roundg (x.li.length - (i + 1))
        case measure => omega
        case rel => exact ⟨i + 1, _, hin, rfl, wrap_succ hin (Nat.le_trans HA1.out.l (by decide)), HVs.out, HH.out, HBB9.out⟩)
    · have i5 : ¬ (i : Int) < (x.li.length : Int) := by omega
      have htk : x.li.take i = x.li := List.take_of_length_le (by omega)
      rw [htk] at HG
      clear hin htk
      obtain ⟨W2, hW2⟩ : ∃ W2, W2 = wq.alloc (.cells #[.slice an x.nm.length cn, .slice av x.wd.length cv, .slice af x.fi.length cf, .slice none 0 0] 26) := ⟨_, rfl⟩
      have HB2 : Hid (Below wq.heap.size wq W2) := by rw [hW2]; exact belA (Below.refl _ _) _
      have HY2 : Hid (W2.heap[wq.heap.size]? = some (.cells #[.slice an x.nm.length cn, .slice av x.wd.length cv, .slice af x.fi.length cf, .slice none 0 0] 26 (0, 0))) := by rw [hW2]; exact alAt rfl
      have HB2b : Hid (Below wq.heap.size wq W2) := HB2.out
      have HPs : Hid (PsAt W2 (.slice (some ⟨gL, 0, none⟩) n n) (prts n x.li)) := (HG.out.ps HVn.out (Nat.le_refl _)).below HB2.out
      go_upto_region 12 with fail
      rw [← hW2]
      clear hW2 b0 b1 b2 b3 i5
      have HD2 : Hid (Wi W2 (.slice an x.nm.length cn) (.slice av x.wd.length cv) (.slice af x.fi.length cf) (.slice none 0 0) (withL x [])) := (((HA1.out.below HBq.out).below HB2.out)).bare
      have HA2 : Hid (Wi W2 (.slice an x.nm.length cn) (.slice av x.wd.length cv) (.slice af x.fi.length cf) (.slice al x.li.length cl) x) := (HA1.out.below HBq.out).below HB2.out
      have HX2 : Hid (W2.heap[E]? = some (.cells #[.slice an x.nm.length cn, .slice av x.wd.length cv, .slice af x.fi.length cf, .slice al x.li.length cl] 26 (0, 0))) := (HB2.out.block E lbq).trans ((HBq.out.block E lb).trans HX1.out)
      have HBw2 : Hid (Below w.heap.size w W2) := bel HBw.out (bel HBq.out HB2.out)
      clear HB2 HB2b HG HBw HBq lb lbq HG1 HB1 HX1 HA1
      obtain ⟨Z, hZ⟩ : ∃ Z, Z = wq.heap.size := ⟨_, rfl⟩
      rw [← hZ] at HY2 ⊢
      clear hZ
      obtain ⟨y0, y1, y2, y3⟩ := cells4 HY2.out
      have ly := hLt HY2.out
      go_upto_region 13 with (first
        | (go_at_call 19; refine (HD2.out.merge HMe.out HPs.out HN.out.1 HN.out.2 HM.out HA2.out).mono ?_; rintro e w3 ⟨an3, cn3, av3, cv3, af3, cf3, al3, cl3, rfl, HW3, hb3⟩))
      obtain ⟨W3, hW3⟩ : ∃ W3, W3 = w3.alloc (.cells #[.slice an3 x.nm.length cn3, .slice av3 x.wd.length cv3, .slice af3 x.fi.length cf3, .slice al3 x.li.length cl3] 26) := ⟨_, rfl⟩
      rw [← hW3]
      have HB3 : Hid (Below W2.heap.size W2 W3) := by rw [hW3]; exact belA hb3 _
      have HC3 : Hid (Wi W3 (.slice an3 x.nm.length cn3) (.slice av3 x.wd.length cv3) (.slice af3 x.fi.length cf3) (.slice al3 x.li.length cl3) x) := by rw [hW3]; exact HW3.out.below (belA (Below.refl _ _) _)
      have HZ3 : Hid (W3.heap[w3.heap.size]? = some (.cells #[.slice an3 x.nm.length cn3, .slice av3 x.wd.length cv3, .slice af3 x.fi.length cf3, .slice al3 x.li.length cl3] 26 (0, 0))) := by rw [hW3]; exact alAt rfl
      clear hW3 hb3 HW3 y0 y1 y2 y3 ly
      generalize w3.heap.size = Y at *
      have lx2 := hLt HX2.out
      obtain ⟨b0, b1, b2, b3⟩ := cells4 ((HB3.out.block E lx2).trans HX2.out)
      obtain ⟨y0, y1, y2, y3⟩ := cells4 HZ3.out
      have ly := hLt HZ3.out
      have lx3 := Nat.lt_of_lt_of_le lx2 HB3.out.size
      clear lx2
      go_wp2_with (first
        | (go_at_call 15; refine (HC3.out.same (HA2.out.below HB3.out)).mono ?_; rintro e w5 ⟨rfl, hb5⟩)
        | (go_at_call 11; refine (HP.out.aw _).mono ?_; rintro e w6 ⟨rfl, hb6⟩))
      go_ret
      exact ⟨rfl, bel HBw2.out (bel HB3.out (bel hb5 hb6))⟩
end Go.Proofs.Ytfefgldngkpgjaa
