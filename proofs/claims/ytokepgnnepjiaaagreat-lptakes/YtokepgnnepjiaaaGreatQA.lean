/- Process 1 goes through a time. -/
import Derived.Test.YtokepgnnepjiaaaGreatPZ
import Derived.Test.YtokepgnnepjiaaaGreatPO
namespace Go.Proofs.YtokepgnnepjiaaaGreat
set_option maxRecDepth 100000
open Go.RowKit Lg Nl Go.Maps
set_option linter.unusedVariables false
set_option linter.unusedSimpArgs false

theorem Fc1.but {h : Int} {F bN cN bE cE bP bT cT bI : Nat} {ia : Option Addr} {ic q : Nat} {v0 : Value} {W W' : World} (x : Fc1 h F bN cN bE cE bP bT cT bI ia ic W) (hb : Q.But2 q v0.ownBlock W W') (hs : ∀ b, (b = F ∨ b = bN ∨ b = bE ∨ b = bP ∨ b = bT ∨ b = bI) → Sep q v0 b) : Fc1 h F bN cN bE cE bP bT cT bI ia ic W' :=
  x.mv fun b i u hx hu => (cellE (hb.block b (World.block_lt_of_cell? W ⟨b, i, none⟩ hu) (hs b hx).1 (hs b hx).2)).trans hu
theorem ne_list {u v : ByteArray} (h : u ≠ v) : (u.toList == v.toList) = false := by
  rw [beq_eq_false_iff_ne]
  intro e
  apply h
  have h1 : L u = L v := by rw [← toL, ← toL]; exact e
  exact L_inj h1
theorem fin_pr {W : World} {p F q : Nat} {d mk : Int} {vs vv : Value} {pp : Option Addr} (h : W.heap[p]? = some (prC p F q d vs mk vv pp)) (pp' : Option Addr) (mk' tm : Int) (vs' vv' : Value) : (fin5 W p pp' mk' tm vs' vv').heap[p]? = some (prC p F q tm vs' mk' vv' pp') :=
  heap_setCell_same _ p 5 _ _ vv' (heap_setCell_same _ p 3 _ _ vs' (heap_setCell_same _ p 2 _ _ (.int .i64 tm) (heap_setCell_same _ p 4 _ _ (.int .i64 mk') (heap_setCell_same W p 7 _ _ (.pointer pp') h))))
theorem fin_ot (W : World) (p : Nat) (pp' : Option Addr) (mk' tm : Int) (vs' vv' : Value) : Q.Ot p W (fin5 W p pp' mk' tm vs' vv') := (((((Q.Ot.refl p W).set 7 _).set 4 _).set 2 _).set 3 _).set 5 _
/-- what is past: as it was, or a change more -/
def Pst (w : World) (tm n : Int) (v u : ByteArray) (pp pp' : Option Addr) (W : World) : Prop :=
  (pp' = pp ∧ u = v) ∨ (u ≠ v ∧ ∃ m bC cC, pp' = some ⟨m, 0, none⟩ ∧ W.heap[m]? = some (.cells #[.pointer pp, .slice (some ⟨bC, 0, none⟩) 1 cC] 108 (0, 0)) ∧ C1 w.heap.size bC tm n u W ∧ w.heap.size ≤ m)
def Co (w : World) (B q : Nat) (v0 : Value) (l : List Q.Qu.Ev) (tm : Int) (ds rest : List Q.Qu.Ev) (vq : Value) (W1 : World) : Prop := ∃ a n c x b X, n = ds.length ∧ Du w B q v0 l tm ds rest x b X (.slice a n c) vq W1 ∧ (b = false ∨ x.t ≠ tm)
set_option maxHeartbeats 1000000 in
theorem through1_c (B p q : Nat) (hz d tm : Int) (v : ByteArray) (l : List Q.Qu.Ev) (pp : Option Addr) (F bN cN bE cE bP bT cT bI : Nat) (ia : Option Addr) (ic bV cV : Nat) (v0 : Value) (w : World) (S : Nat) (hS : S ≤ w.heap.size) (hs : ∀ k, v0.ownBlock = some k → S ≤ k) (h : U1 B p q hz d v l pp F bN cN bE cE bP bT cT bI ia ic bV cV v0 w) (hl : l.length ≤ 4096) (hnd : ∀ x ∈ l, x.nd = 1) :
    Calls Tryz.prog 23 #[.pointer (some ⟨p, 0, none⟩), .int .i64 tm] w fun e w' => e = .returned (.tuple #[.slice none 0 0, .int .i64 0]) ∧ ∃ ds rest pp', Hid (U1E B p q hz tm (lastV v (ds.map (·.v))) rest pp' S w') ∧ Hid (l.Perm (ds ++ rest) ∧ (∀ y ∈ ds, y.t = tm) ∧ (rest = [] ∨ (Q.Qu.g rest 0).t ≠ tm)) ∧ Hid (Pst w tm 1 v (lastV v (ds.map (·.v))) pp pp' w') ∧ But3 p q v0.ownBlock w w' := by
  have lV := World.block_lt_of_cell? w ⟨bV, 0, none⟩ h.vv
  have lp := hLt h.pb
  -- what holds at a world behind the taking out
  have cP : ∀ ds rest vq W1, Co w B q v0 l tm ds rest vq W1 → W1.heap[p]? = some (prC p F q d (.slice none 0 0) 0 (.slice (some ⟨bV, 0, none⟩) 1 cV) pp) := fun ds rest vq W1 ⟨_, _, _, _, _, _, _, hd, _⟩ => (hd.but.block p lp h.sp.1 h.sp.2).trans h.pb
  have cF : ∀ ds rest vq W1, Co w B q v0 l tm ds rest vq W1 → Fc1 hz F bN cN bE cE bP bT cT bI ia ic W1 := fun ds rest vq W1 ⟨_, _, _, _, _, _, _, hd, _⟩ => h.fx.but hd.but fun b hb => (h.sf b hb).1
  have cV' : ∀ ds rest vq W1, Co w B q v0 l tm ds rest vq W1 → W1.cell? ⟨bV, 0, none⟩ = some (.string v) := fun ds rest vq W1 ⟨_, _, _, _, _, _, _, hd, _⟩ => (cellE (hd.but.block bV lV h.sv.1 h.sv.2)).trans h.vv
  have cD : ∀ ds rest vq W1, Co w B q v0 l tm ds rest vq W1 → ds.length ≤ 4096 ∧ rest.length ≤ 4096 ∧ ∀ x ∈ ds, x.nd = 1 := fun ds rest vq W1 ⟨_, _, _, _, _, _, _, hd, _⟩ => by
    have h1 := hd.pm.length_eq
    simp at h1
    exact ⟨by omega, by omega, fun y hy => hnd y (hd.pm.mem_iff.2 (List.mem_append_left _ hy))⟩
  have mvP : ∀ {W1 W : World}, W1.heap[p]? = some (prC p F q d (.slice none 0 0) 0 (.slice (some ⟨bV, 0, none⟩) 1 cV) pp) → Below W1.heap.size W1 W → W.heap[p]? = some (prC p F q d (.slice none 0 0) 0 (.slice (some ⟨bV, 0, none⟩) 1 cV) pp) := fun h1 hb => (hb.block p (hLt h1)).trans h1
  have mvV : ∀ {W1 W : World}, W1.cell? ⟨bV, 0, none⟩ = some (.string v) → Below W1.heap.size W1 W → W.cell? ⟨bV, 0, none⟩ = some (.string v) := fun h1 hb => (hb.cell (p := ⟨bV, 0, none⟩) (World.block_lt_of_cell? _ ⟨bV, 0, none⟩ h1)).trans h1
  refine (through_g p F q bV cV d tm 0 none 0 0 pp w
    (fun a n c W => ∃ ds rest vq x b X, n = ds.length ∧ Du w B q v0 l tm ds rest x b X (.slice a n c) vq W ∧ (b = false ∨ x.t ≠ tm))
    (fun a n c sa sn sc ta tn tc W => (sa = none ∧ sn = 0 ∧ sc = 0) ∧ (ta = none ∧ tn = 0 ∧ tc = 0) ∧ ∃ ds rest vq W1 x b X, n = ds.length ∧ Du w B q v0 l tm ds rest x b X (.slice a n c) vq W1 ∧ (b = false ∨ x.t ≠ tm) ∧ Below W1.heap.size W1 W)
    (fun ta tn tc ga gn gc W => (ta = none ∧ tn = 0 ∧ tc = 0) ∧ ∃ ds rest vq W1, Co w B q v0 l tm ds rest vq W1 ∧ gn = ds.length ∧ GotsAt W ga (ds.map (·.v)) ∧ Below W1.heap.size W1 W)
    (fun ta tn tc g4 c4 W => (ta = none ∧ tn = 0 ∧ tc = 0) ∧ ∃ ds rest vq W1, Co w B q v0 l tm ds rest vq W1 ∧ V1 W1.heap.size g4 (lastV v (ds.map (·.v))) W ∧ Below W1.heap.size W1 W)
    (fun ta tn tc g4 c4 ua un uc W => (ta = none ∧ tn = 0 ∧ tc = 0) ∧ (ua = none ∧ un = 0 ∧ uc = 0) ∧ ∃ ds rest vq W1, Co w B q v0 l tm ds rest vq W1 ∧ V1 W1.heap.size g4 (lastV v (ds.map (·.v))) W ∧ Below W1.heap.size W1 W)
    (fun ta tn tc g4 c4 ua un uc ca cn cc W => (ta = none ∧ tn = 0 ∧ tc = 0) ∧ (ua = none ∧ un = 0 ∧ uc = 0) ∧ ∃ ds rest vq W1, Co w B q v0 l tm ds rest vq W1 ∧ V1 W1.heap.size g4 (lastV v (ds.map (·.v))) W ∧ Below W1.heap.size W1 W ∧ ((lastV v (ds.map (·.v)) = v ∧ ca = none ∧ cn = 0 ∧ cc = 0) ∨ (lastV v (ds.map (·.v)) ≠ v ∧ cn = 1 ∧ ∃ bC, ca = some ⟨bC, 0, none⟩ ∧ C1 W1.heap.size bC tm 1 (lastV v (ds.map (·.v))) W)))
    (fun ta tn tc g4 c4 ua un uc pp' W => (ta = none ∧ tn = 0 ∧ tc = 0) ∧ (ua = none ∧ un = 0 ∧ uc = 0) ∧ ∃ ds rest vq W1, Co w B q v0 l tm ds rest vq W1 ∧ V1 W1.heap.size g4 (lastV v (ds.map (·.v))) W ∧ Below W1.heap.size W1 W ∧ Pst W1 tm 1 v (lastV v (ds.map (·.v))) pp pp' W)
    (by omega) (by omega) ?h1 ?h2 ?p2 ?d2 ?h3 ?p3 ?h4 ?p4 ?h5 ?p5 ?d5 ?hl ?h6 ?p6 ?h7 ?p7).mono ?fin
  case h1 =>
    refine (due_c B p F q d 0 tm _ _ v0 pp l w h.pb h.qh hl h.hB h.sp.1 h.sp.2).mono ?_
    rintro e w' ⟨a, n, c, ds, rest, x, X, vq, rfl, hn, hd⟩
    rcases hd.out with hd | ⟨hd, ht⟩
    · exact ⟨a, n, c, rfl, ds, rest, vq, x, false, X, hn.out, hd, Or.inl rfl⟩
    · exact ⟨a, n, c, rfl, ds, rest, vq, x, true, X, hn.out, hd, Or.inr ht⟩
  case h2 =>
    rintro a n c W ⟨ds, rest, vq, x, b, X, hn, hd, hb⟩
    refine (cut_nil p F q d 0 tm _ pp W (cP ds rest vq W ⟨a, n, c, x, b, X, hn, hd, hb⟩)).mono ?_
    rintro e w' ⟨rfl, hb'⟩
    exact ⟨none, 0, 0, none, 0, 0, rfl, ⟨rfl, rfl, rfl⟩, ⟨rfl, rfl, rfl⟩, ds, rest, vq, W, x, b, X, hn, hd, hb, hb'⟩
  case p2 =>
    rintro a n c sa sn sc ta tn tc W ⟨_, _, ds, rest, vq, W1, x, b, X, hn, hd, hb, hb'⟩
    exact mvP (cP ds rest vq W1 ⟨a, n, c, x, b, X, hn, hd, hb⟩) hb'
  case d2 =>
    rintro a n c sa sn sc ta tn tc W ⟨h1, h2, ds, rest, vq, W1, x, b, X, hn, hd, hb, hb'⟩
    exact ⟨h1, h2, ds, rest, vq, W1, x, b, X, hn, hd, hb, hb'.drew⟩
  case h3 =>
    rintro a n c sa sn sc ta tn tc W ⟨⟨rfl, rfl, rfl⟩, ht, ds, rest, vq, W1, x, b, X, rfl, hd, hb, hb'⟩
    have co : Co w B q v0 l tm ds rest vq W1 := ⟨a, _, c, x, b, X, rfl, hd, hb⟩
    refine (gets1_c F bN cN bE cE bP bT cT bI hz ia ic none 0 w.heap.size a c ds W ((cF _ _ _ _ co).below hb') (hd.ls.below hb') (cD _ _ _ _ co).1 (cD _ _ _ _ co).2.2).mono ?_
    rintro e w' ⟨ga, gc, rfl, hg, hb2⟩
    exact ⟨ga, _, gc, rfl, ht, ds, rest, vq, W1, co, rfl, hg.out, bel hb' hb2⟩
  case p3 =>
    rintro ta tn tc ga gn gc W ⟨_, ds, rest, vq, W1, co, _, _, hb⟩
    exact mvP (cP _ _ _ _ co) hb
  case h4 =>
    rintro ta tn tc ga gn gc W ⟨ht, ds, rest, vq, W1, co, rfl, hg, hb⟩
    have k := settled1_c F bN cN bE cE bP bT cT bI hz ia ic bV cV v ga (ds.map (·.v)) gc W ((cF _ _ _ _ co).below hb) (mvV (cV' _ _ _ _ co) hb) hg (by rw [List.length_map]; have := (cD _ _ _ _ co).1; omega)
    rw [List.length_map] at k
    refine k.mono ?_
    rintro e w' ⟨g4, c4, rfl, hv, hb2⟩
    exact ⟨g4, c4, rfl, ht, ds, rest, vq, W1, co, ⟨Nat.le_trans hb.size hv.out.ge, hv.out.c, hv.out.f⟩, bel hb hb2⟩
  case p4 =>
    rintro ta tn tc g4 c4 W ⟨_, ds, rest, vq, W1, co, _, hb⟩
    exact mvP (cP _ _ _ _ co) hb
  case h5 =>
    rintro ta tn tc g4 c4 W ⟨ht, ds, rest, vq, W1, co, hv, hb⟩
    refine (sends1_c p F q bN cN bE cE bP bT cT bI hz d 0 tm ia ic _ _ pp _ _ _ W (mvP (cP _ _ _ _ co) hb) ((cF _ _ _ _ co).below hb)).mono ?_
    rintro e w' ⟨rfl, rfl⟩
    exact ⟨none, 0, 0, rfl, Nat.zero_le _, ht, ⟨rfl, rfl, rfl⟩, ds, rest, vq, W1, co, hv, hb⟩
  case p5 =>
    rintro ta tn tc g4 c4 ua un uc W ⟨_, _, ds, rest, vq, W1, co, _, hb⟩
    exact mvP (cP _ _ _ _ co) hb
  case d5 =>
    rintro ta tn tc g4 c4 ua un uc W ⟨h1, h2, ds, rest, vq, W1, co, hv, hb⟩
    exact ⟨h1, h2, ds, rest, vq, W1, co, hv.keep rfl, hb.drew⟩
  case hl =>
    rintro ta tn tc g4 c4 ua un uc W ⟨_, _, ds, rest, vq, W1, co, _, hb⟩
    have hc := (cD _ _ _ _ co).2.1
    obtain ⟨_, _, _, _, _, _, _, hd, _⟩ := co
    exact ⟨rest.length, hc, Q.len_c B q 4096 vq rest W (hd.qh.below hb).b⟩
  case h6 =>
    rintro ta tn tc g4 c4 ua un uc W ⟨h1, h2, ds, rest, vq, W1, co, hv, hb⟩
    by_cases hu : lastV v (ds.map (·.v)) = v
    · refine (changes1_same F bN cN bE cE bP bT cT bI hz tm ia ic bV cV g4 c4 v W ((cF _ _ _ _ co).below hb) (mvV (cV' _ _ _ _ co) hb) (by rw [← hu]; rw [hu]; exact hu ▸ hv.c)).mono ?_
      rintro e w' ⟨rfl, hb2⟩
      exact ⟨none, 0, 0, rfl, h1, h2, ds, rest, vq, W1, co, hv.below hb2, bel hb hb2, Or.inl ⟨hu, rfl, rfl, rfl⟩⟩
    · refine (changes1_diff F bN cN bE cE bP bT cT bI hz tm ia ic bV cV g4 c4 v _ W ((cF _ _ _ _ co).below hb) (mvV (cV' _ _ _ _ co) hb) hv.c (ne_list hu)).mono ?_
      rintro e w' ⟨bC, cC, rfl, hc, hb2⟩
      exact ⟨some ⟨bC, 0, none⟩, 1, cC, rfl, h1, h2, ds, rest, vq, W1, co, hv.below hb2, bel hb hb2, Or.inr ⟨hu, rfl, bC, rfl, ⟨Nat.le_trans hb.size hc.out.ge, hc.out.c0, hc.out.c1, hc.out.c2⟩⟩⟩
  case p6 =>
    rintro ta tn tc g4 c4 ua un uc ca cn cc W ⟨_, _, ds, rest, vq, W1, co, _, hb, _⟩
    exact mvP (cP _ _ _ _ co) hb
  case h7 =>
    rintro ta tn tc g4 c4 ua un uc ca cn cc W ⟨h1, h2, ds, rest, vq, W1, co, hv, hb, hc⟩
    rcases hc with ⟨hu, rfl, rfl, rfl⟩ | ⟨hu, rfl, bC, rfl, hc⟩
    · refine (with_nil pp W).mono ?_
      rintro e w' ⟨rfl, rfl⟩
      exact ⟨pp, rfl, h1, h2, ds, rest, vq, W1, co, hv, hb, Or.inl ⟨rfl, hu⟩⟩
    · refine (with_one pp _ cc W).mono ?_
      rintro e w' ⟨rfl, rfl⟩
      exact ⟨_, rfl, h1, h2, ds, rest, vq, W1, co, hv.below (belA (Below.refl _ _) _), belA hb _, Or.inr ⟨hu, W.heap.size, bC, cc, rfl, alAt rfl, hc.below (belA (Below.refl _ _) _), hb.size⟩⟩
  case p7 =>
    rintro ta tn tc g4 c4 ua un uc pp' W ⟨_, _, ds, rest, vq, W1, co, _, hb, _⟩
    exact mvP (cP _ _ _ _ co) hb
  case fin =>
    rintro e w' ⟨ua, un, uc, rfl, ta, tn, tc, g4, c4, pp', W, h7, hw⟩
    obtain ⟨⟨rfl, rfl, rfl⟩, ⟨rfl, rfl, rfl⟩, ds, rest, vq, W1, co, hv, hb, hpst⟩ := h7.out
    refine ⟨rfl, ds, rest, pp', ?_⟩
    rw [hw.out]
    have hot := fin_ot W p pp' (0 + ((0 : Nat) : Int)) tm (.slice none 0 0) (.slice (some ⟨g4, 0, none⟩) 1 c4)
    have hpr := fin_pr (mvP (cP _ _ _ _ co) hb) pp' (0 + ((0 : Nat) : Int)) tm (.slice none 0 0) (.slice (some ⟨g4, 0, none⟩) 1 c4)
    generalize fin5 W p pp' (0 + ((0 : Nat) : Int)) tm (.slice none 0 0) (.slice (some ⟨g4, 0, none⟩) 1 c4) = W' at hot hpr ⊢
    have hfx := (cF _ _ _ _ co).below hb
    obtain ⟨a, n, c, x, b, X, hn, hd, hbt⟩ := co
    have h1 := hd.but.size
    have h2 := hb.size
    have hgv := hv.ge
    have hq0 := Q.hLt h.qh.b.blk
    have hqr := World.ownsRow.lt hd.qh.b.row
    have hqv : ∀ k, k < w.heap.size → v0.ownBlock ≠ some k → vq.ownBlock ≠ some k := fun k hk hn e => by
      rcases hd.mv k e with h3 | h3
      · exact hn h3
      · omega
    have hgB := h.qh.b.ge
    have hlt : ∀ b, (b = F ∨ b = bN ∨ b = bE ∨ b = bP ∨ b = bT ∨ b = bI) → b < w.heap.size := by
      rintro b (rfl | rfl | rfl | rfl | rfl | rfl)
      · exact World.block_lt_of_cell? w ⟨b, 0, none⟩ h.fx.f0
      · exact World.block_lt_of_cell? w ⟨b, 0, none⟩ h.fx.n0
      · exact World.block_lt_of_cell? w ⟨b, 0, none⟩ h.fx.e0
      · exact World.block_lt_of_cell? w ⟨b, 0, none⟩ h.fx.p0
      · exact World.block_lt_of_cell? w ⟨b, 0, none⟩ h.fx.t0
      · exact World.block_lt_of_cell? w ⟨b, 0, none⟩ h.fx.i0
    have hgp : g4 ≠ p := by omega
    have hsp : vq.ownBlock ≠ some p := hqv p lp h.sp.2
    have hsz := hot.size
    refine ⟨⟨F, bN, cN, bE, cE, bP, bT, cT, bI, ia, ic, g4, c4, vq, ⟨hpr, ?_, ?_, ?_, ?_, h.gp, ⟨h.sp.1, hsp⟩, ⟨by omega, fun e => by have := (hqr g4 e).2; omega⟩, hgp, ?_, fun b hx => by rcases hx with e | e | e | e | e | e | e <;> first | (have := h.hB; omega) | exact h.lo b (by simp [e])⟩, fun k e => (hd.mv k e).elim (hs k) (fun h3 => Nat.le_trans hS h3)⟩, ⟨hd.pm, hd.dt, ?_⟩, ?_, ?_⟩
    · exact hfx.mv fun b i u hx hu => (cellE (hot.block b (h.sf b hx).2)).trans hu
    · exact (cellE (hot.block g4 hgp)).trans hv.c
    · exact Qh_keep (hd.qh.below hb) (hot.block q (Ne.symm h.sp.1)) fun k e => hot.block k fun e2 => hsp (e2 ▸ e)
    · rw [hsz]; have := h.hB; omega
    · exact fun b hx => ⟨⟨(h.sf b hx).1.1, hqv b (hlt b hx) (h.sf b hx).1.2⟩, (h.sf b hx).2⟩
    · rcases hd.hb with ⟨_, h3, hx⟩ | ⟨_, h3, _⟩
      · right
        rcases hbt with hb3 | hb3
        · simp_all
        · rw [← hx]; exact hb3
      · exact Or.inl h3
    · rcases hpst with h3 | ⟨hne, m, bC, cC, e, hm, hc, hg⟩
      · exact Or.inl h3
      · have hcg := hc.ge
        exact Or.inr ⟨hne, m, bC, cC, e, (hot.block m (by omega)).trans hm, ⟨by omega, (cellE (hot.block bC (by omega))).trans hc.c0, (cellE (hot.block bC (by omega))).trans hc.c1, (cellE (hot.block bC (by omega))).trans hc.c2⟩, by omega⟩
    · have hBw := h.hB
      refine ⟨hot.os.trans (hb.os.trans hd.but.os), hot.tape.trans (hb.tape.trans hd.but.tape), hot.output.trans (hb.output.trans hd.but.output), by omega, fun k hk hp hq hv => (hot.block k hp).trans ((hb.block k (by omega)).trans (hd.but.block k hk hq hv))⟩
end Go.Proofs.YtokepgnnepjiaaaGreat
