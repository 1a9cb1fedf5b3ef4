/- Process 0 goes through the times 0 and 3. -/
import Derived.Test.YtokepgnnepjiaaaGreatQF
import Derived.Test.YtokepgnnepjiaaaGreatGPg
import Derived.Test.YtokepgnnepjiaaaGreatQA
namespace Go.Proofs.YtokepgnnepjiaaaGreat
set_option maxRecDepth 100000
open Go.RowKit Lg Nl Go.Maps
set_option linter.unusedVariables false
set_option linter.unusedSimpArgs false

theorem Fc0.but {h : Int} {F bN cN bE cE bP bT cT bI bL cL : Nat} {ia : Option Addr} {ic q : Nat} {v0 : Value} {W W' : World} (x : Fc0 h F bN cN bE cE bP bT cT bI bL cL ia ic W) (hb : Q.But2 q v0.ownBlock W W') (hs : ∀ b, (b = F ∨ b = bN ∨ b = bE ∨ b = bP ∨ b = bT ∨ b = bI ∨ b = bL) → Sep q v0 b) : Fc0 h F bN cN bE cE bP bT cT bI bL cL ia ic W' :=
  x.mv fun b i u hx hu => (cellE (hb.block b (World.block_lt_of_cell? W ⟨b, i, none⟩ hu) (hs b hx).1 (hs b hx).2)).trans hu
/-- what is there behind the taking out of no event -/
structure Co0 (w : World) (B q : Nat) (v0 vq : Value) (a : Option Addr) (c : Nat) (W1 : World) : Prop where
  but : Q.But2 q v0.ownBlock w W1
  qh : Q.Qh B q 4096 W1 vq []
  mv : Q.Mv v0 vq w
theorem due0 (B p F q : Nat) (d mk tm : Int) (vs vv v0 : Value) (pp : Option Addr) (w : World) (hp : w.heap[p]? = some (prC p F q d vs mk vv pp)) (hq : Q.Qh B q 4096 w v0 []) (hB : B ≤ w.heap.size) (hpq : p ≠ q) (hpv : v0.ownBlock ≠ some p) :
    Calls Tryz.prog 41 #[.pointer (some ⟨p, 0, none⟩), .int .i64 tm] w fun e w' => ∃ a n c, e = .returned (.slice a n c) ∧ Hid (n = 0 ∧ ∃ vq, Co0 w B q v0 vq a c w') := by
  refine (due_c B p F q d mk tm vs vv v0 pp [] w hp hq (by simp) hB hpq hpv).mono ?_
  rintro e w' ⟨a, n, c, ds, rest, x, X, vq, rfl, hn, hd⟩
  have key : ∀ b, Du w B q v0 [] tm ds rest x b X (.slice a n c) vq w' → n = 0 ∧ ∃ vq, Co0 w B q v0 vq a c w' := fun b hd => by
    have h1 : ds.length + rest.length = 0 := by simpa using hd.pm.length_eq.symm
    have h2 : rest = [] := List.eq_nil_of_length_eq_zero (by omega)
    have hq := hd.qh
    rw [h2] at hq
    exact ⟨by rw [hn.out]; omega, vq, hd.but, hq, hd.mv⟩
  rcases hd.out with hd | ⟨hd, _⟩
  · exact ⟨a, n, c, rfl, key false hd⟩
  · exact ⟨a, n, c, rfl, key true hd⟩
set_option maxHeartbeats 1000000 in
theorem through0a_c (B p q : Nat) (hz : Int) (pp : Option Addr) (F bN cN bE cE bP bT cT bI bL cL : Nat) (ia : Option Addr) (ic bV cV bS cS : Nat) (v0 : Value) (w : World) (S : Nat) (hS : S ≤ w.heap.size) (hs : ∀ k, v0.ownBlock = some k → S ≤ k) (h : U0 B p q hz (-1) ⟨#[120]⟩ pp F bN cN bE cE bP bT cT bI bL cL ia ic bV cV bS cS v0 w) :
    Calls Tryz.prog 23 #[.pointer (some ⟨p, 0, none⟩), .int .i64 0] w fun e w' => e = .returned (.tuple #[.slice none 0 0, .int .i64 0]) ∧ Hid (U0E B p q hz 0 ⟨#[120]⟩ pp S w') ∧ Hid (But3 p q v0.ownBlock w w') := by
  have lV := World.block_lt_of_cell? w ⟨bV, 0, none⟩ h.vv
  have lS := h.st.lt
  have lp := hLt h.pb
  have cP : ∀ vq a c W1, Co0 w B q v0 vq a c W1 → W1.heap[p]? = some (prC p F q (-1) (.slice (some ⟨bS, 0, none⟩) 1 cS) 0 (.slice (some ⟨bV, 0, none⟩) 1 cV) pp) := fun vq a c W1 co => (co.but.block p lp h.sp.1 h.sp.2).trans h.pb
  have cF : ∀ vq a c W1, Co0 w B q v0 vq a c W1 → Fc0 hz F bN cN bE cE bP bT cT bI bL cL ia ic W1 := fun vq a c W1 co => h.fx.but co.but fun b hb => (h.sf b hb).1
  have cV' : ∀ vq a c W1, Co0 w B q v0 vq a c W1 → W1.cell? ⟨bV, 0, none⟩ = some (.string ⟨#[120]⟩) := fun vq a c W1 co => (cellE (co.but.block bV lV h.sv.1 h.sv.2)).trans h.vv
  have cS' : ∀ vq a c W1, Co0 w B q v0 vq a c W1 → C1 B bS 3 0 ⟨#[49]⟩ W1 := fun vq a c W1 co => h.st.keep (co.but.block bS lS h.ss.1 h.ss.2)
  have cW : ∀ vq a c W1, Co0 w B q v0 vq a c W1 → w.heap.size ≤ W1.heap.size := fun vq a c W1 co => co.but.size
  have mvP : ∀ {W1 W : World}, W1.heap[p]? = some (prC p F q (-1) (.slice (some ⟨bS, 0, none⟩) 1 cS) 0 (.slice (some ⟨bV, 0, none⟩) 1 cV) pp) → Below W1.heap.size W1 W → W.heap[p]? = some (prC p F q (-1) (.slice (some ⟨bS, 0, none⟩) 1 cS) 0 (.slice (some ⟨bV, 0, none⟩) 1 cV) pp) := fun h1 hb => (hb.block p (hLt h1)).trans h1
  have mvV : ∀ {W1 W : World}, W1.cell? ⟨bV, 0, none⟩ = some (.string ⟨#[120]⟩) → Below W1.heap.size W1 W → W.cell? ⟨bV, 0, none⟩ = some (.string ⟨#[120]⟩) := fun h1 hb => (hb.cell (p := ⟨bV, 0, none⟩) (World.block_lt_of_cell? _ ⟨bV, 0, none⟩ h1)).trans h1
  refine (through_g p F q bV cV (-1) 0 0 (some ⟨bS, 0, none⟩) 1 cS pp w
    (fun a n c W => n = 0 ∧ ∃ vq, Co0 w B q v0 vq a c W)
    (fun a n c sa sn sc ta tn tc W => n = 0 ∧ (sa = some ⟨bS, 0, none⟩ ∧ sn = 0 ∧ cS = sc) ∧ (ta = some ⟨bS, 0, none⟩ ∧ tn = 1 ∧ cS = tc) ∧ ∃ vq a c W1, Co0 w B q v0 vq a c W1 ∧ Below W1.heap.size W1 W)
    (fun ta tn tc ga gn gc W => (ta = some ⟨bS, 0, none⟩ ∧ tn = 1 ∧ cS = tc) ∧ gn = 0 ∧ GotsAt W ga [] ∧ ∃ vq a c W1, Co0 w B q v0 vq a c W1 ∧ Below W1.heap.size W1 W)
    (fun ta tn tc g4 c4 W => (ta = some ⟨bS, 0, none⟩ ∧ tn = 1 ∧ cS = tc) ∧ ∃ vq a c W1, Co0 w B q v0 vq a c W1 ∧ Below W1.heap.size W1 W ∧ V1 W1.heap.size g4 ⟨#[120]⟩ W)
    (fun ta tn tc g4 c4 ua un uc W => (ta = some ⟨bS, 0, none⟩ ∧ tn = 1 ∧ cS = tc) ∧ (ua = none ∧ un = 0 ∧ uc = 0) ∧ (True) ∧ ∃ vq a c W1, Co0 w B q v0 vq a c W1 ∧ Below W1.heap.size W1 W ∧ V1 W1.heap.size g4 ⟨#[120]⟩ W)
    (fun ta tn tc g4 c4 ua un uc ca cn cc W => (ta = some ⟨bS, 0, none⟩ ∧ tn = 1 ∧ cS = tc) ∧ (ua = none ∧ un = 0 ∧ uc = 0) ∧ (True) ∧ (ca = none ∧ cn = 0 ∧ cc = 0) ∧ ∃ vq a c W1, Co0 w B q v0 vq a c W1 ∧ Below W1.heap.size W1 W ∧ V1 W1.heap.size g4 ⟨#[120]⟩ W)
    (fun ta tn tc g4 c4 ua un uc pp' W => (ta = some ⟨bS, 0, none⟩ ∧ tn = 1 ∧ cS = tc) ∧ (ua = none ∧ un = 0 ∧ uc = 0) ∧ (True) ∧ (pp = pp') ∧ ∃ vq a c W1, Co0 w B q v0 vq a c W1 ∧ Below W1.heap.size W1 W ∧ V1 W1.heap.size g4 ⟨#[120]⟩ W)
    (by omega) (by omega) ?h1 ?h2 ?p2 ?d2 ?h3 ?p3 ?h4 ?p4 ?h5 ?p5 ?d5 ?hl ?h6 ?p6 ?h7 ?p7).mono ?fin
  case h1 => exact due0 B p F q (-1) 0 0 _ _ v0 pp w h.pb h.qh h.hB h.sp.1 h.sp.2
  case h2 =>
    rintro a n c W ⟨hn, vq, co⟩
    refine (cut_no p F q bS cS (-1) 0 3 0 _ pp W (cP _ _ _ _ co) (cS' _ _ _ _ co).c0 (by decide)).mono ?_
    rintro e w' ⟨rfl, hb⟩
    exact ⟨_, _, _, _, _, _, rfl, hn, ⟨rfl, rfl, rfl⟩, ⟨rfl, rfl, rfl⟩, vq, a, c, W, co, hb⟩
  case p2 =>
    rintro a n c sa sn sc ta tn tc W ⟨_, _, _, vq, a', c', W1, co, hb⟩
    exact mvP (cP _ _ _ _ co) hb
  case d2 =>
    rintro a n c sa sn sc ta tn tc W ⟨h1, h2, h3, vq, a', c', W1, co, hb⟩
    exact ⟨h1, h2, h3, vq, a', c', W1, co, hb.drew⟩
  case h3 =>
    rintro a n c sa sn sc ta tn tc W ⟨rfl, ⟨rfl, rfl, rfl⟩, ht, vq, a', c', W1, co, hb⟩
    refine (gets_none2 F a c _ cS W).mono ?_
    rintro e w' ⟨rfl, rfl⟩
    exact ⟨none, 0, 0, rfl, ht, rfl, Or.inl rfl, vq, a', c', W1, co, hb⟩
  case p3 =>
    rintro ta tn tc ga gn gc W ⟨_, _, _, vq, a', c', W1, co, hb⟩
    exact mvP (cP _ _ _ _ co) hb
  case h4 =>
    rintro ta tn tc ga gn gc W ⟨ht, rfl, hg, vq, a', c', W1, co, hb⟩
    refine (settled0_c F bN cN bE cE bP bT cT bI bL cL hz ia ic bV cV ⟨#[120]⟩ ga [] gc W ((cF _ _ _ _ co).below hb) (mvV (cV' _ _ _ _ co) hb) hg (by decide)).mono ?_
    rintro e w' ⟨g4, c4, rfl, hv, hb2⟩
    exact ⟨g4, c4, rfl, ht, vq, a', c', W1, co, bel hb hb2, ⟨by have := hv.out.ge; have := hb.size; omega, hv.out.c, hv.out.f⟩⟩
  case p4 =>
    rintro ta tn tc g4 c4 W ⟨_, vq, a', c', W1, co, hb, _⟩
    exact mvP (cP _ _ _ _ co) hb
  case h5 =>
    rintro ta tn tc g4 c4 W ⟨ht, vq, a', c', W1, co, hb, hv⟩
    refine (sends0_same p F q bN cN bE cE bP bT cT bI bL cL g4 c4 hz (-1) 0 0 ⟨#[120]⟩ ia ic _ _ pp W (mvP (cP _ _ _ _ co) hb) ((cF _ _ _ _ co).below hb) hv.c (by omega) (by omega) (fun X hX => sent0_new p F q bN cN bE cE bP bT cT bI bL cL hz 0 ia ic _ _ pp X (mvP (mvP (cP _ _ _ _ co) hb) hX) (((cF _ _ _ _ co).below hb).below hX))).mono ?_
    rintro e w' ⟨rfl, hb2⟩
    exact ⟨none, 0, 0, rfl, Nat.zero_le _, ht, ⟨rfl, rfl, rfl⟩, trivial, vq, a', c', W1, co, bel hb hb2, hv.below hb2⟩
  case p5 =>
    rintro ta tn tc g4 c4 ua un uc W ⟨_, _, _, vq, a', c', W1, co, hb, _⟩
    exact mvP (cP _ _ _ _ co) hb
  case d5 =>
    rintro ta tn tc g4 c4 ua un uc W ⟨h1, h2, h3, vq, a', c', W1, co, hb, hv⟩
    exact ⟨h1, h2, h3, vq, a', c', W1, co, hb.drew, hv.keep rfl⟩
  case hl =>
    rintro ta tn tc g4 c4 ua un uc W ⟨_, _, _, vq, a', c', W1, co, hb, _⟩
    exact ⟨0, by omega, Q.len_c B q 4096 vq [] W (co.qh.below hb).b⟩
  case h6 =>
    rintro ta tn tc g4 c4 ua un uc W ⟨h1, h2, h3, vq, a', c', W1, co, hb, hv⟩
    refine (changes0_same F bN cN bE cE bP bT cT bI bL cL hz 0 ia ic bV cV g4 c4 ⟨#[120]⟩ W ((cF _ _ _ _ co).below hb) (mvV (cV' _ _ _ _ co) hb) hv.c).mono ?_
    rintro e w' ⟨rfl, hb2⟩
    exact ⟨none, 0, 0, rfl, h1, h2, h3, ⟨rfl, rfl, rfl⟩, vq, a', c', W1, co, bel hb hb2, hv.below hb2⟩
  case p6 =>
    rintro ta tn tc g4 c4 ua un uc ca cn cc W ⟨_, _, _, _, vq, a', c', W1, co, hb, _⟩
    exact mvP (cP _ _ _ _ co) hb
  case h7 =>
    rintro ta tn tc g4 c4 ua un uc ca cn cc W ⟨h1, h2, h3, h4, vq, a', c', W1, co, hb, hv⟩
    obtain ⟨rfl, rfl, rfl⟩ := h4
    refine (with_nil pp W).mono ?_
    rintro e w' ⟨rfl, rfl⟩
    exact ⟨pp, rfl, h1, h2, h3, rfl, vq, a', c', W1, co, hb, hv⟩
  case p7 =>
    rintro ta tn tc g4 c4 ua un uc pp' W ⟨_, _, _, _, vq, a', c', W1, co, hb, _⟩
    exact mvP (cP _ _ _ _ co) hb
  case fin =>
    rintro e w' ⟨ua, un, uc, rfl, ta, tn, tc, g4, c4, pp', W, h7, hw⟩
    obtain ⟨h1, h2, h3, h4, vq, a', c', W1, co, hb, hv⟩ := h7.out
    obtain ⟨rfl, rfl, rfl⟩ := h1
    obtain ⟨rfl, rfl, rfl⟩ := h2
    subst h4
    refine ⟨rfl, ?_⟩
    rw [hw.out]
    have hot := fin_ot W p pp (0 + ((0 : Nat) : Int)) 0 (.slice (some ⟨bS, 0, none⟩) 1 cS) (.slice (some ⟨g4, 0, none⟩) 1 c4)
    have hpr := fin_pr (mvP (cP _ _ _ _ co) hb) pp (0 + ((0 : Nat) : Int)) 0 (.slice (some ⟨bS, 0, none⟩) 1 cS) (.slice (some ⟨g4, 0, none⟩) 1 c4)
    generalize fin5 W p pp (0 + ((0 : Nat) : Int)) 0 (.slice (some ⟨bS, 0, none⟩) 1 cS) (.slice (some ⟨g4, 0, none⟩) 1 c4) = W' at hot hpr ⊢
    have hfx := (cF _ _ _ _ co).below hb
    have h1 := co.but.size
    have h2 := hb.size
    have hgv := hv.ge
    have hq0 := Q.hLt h.qh.b.blk
    have hqv : ∀ k, k < w.heap.size → v0.ownBlock ≠ some k → vq.ownBlock ≠ some k := fun k hk hn e => by
      rcases co.mv k e with h3 | h3
      · exact hn h3
      · omega
    have hgp : g4 ≠ p := by omega
    have hsp : vq.ownBlock ≠ some p := hqv p lp h.sp.2
    have hsz := hot.size
    have hqr := World.ownsRow.lt co.qh.b.row
    have hlt : ∀ b, (b = F ∨ b = bN ∨ b = bE ∨ b = bP ∨ b = bT ∨ b = bI ∨ b = bL) → b < w.heap.size := by
      rintro b (rfl | rfl | rfl | rfl | rfl | rfl | rfl)
      · exact World.block_lt_of_cell? w ⟨b, 0, none⟩ h.fx.f0
      · exact World.block_lt_of_cell? w ⟨b, 0, none⟩ h.fx.n0
      · exact World.block_lt_of_cell? w ⟨b, 0, none⟩ h.fx.e0
      · exact World.block_lt_of_cell? w ⟨b, 0, none⟩ h.fx.p0
      · exact World.block_lt_of_cell? w ⟨b, 0, none⟩ h.fx.t0
      · exact World.block_lt_of_cell? w ⟨b, 0, none⟩ h.fx.i0
      · exact World.block_lt_of_cell? w ⟨b, 0, none⟩ h.fx.l0
    refine ⟨⟨F, bN, cN, bE, cE, bP, bT, cT, bI, bL, cL, ia, ic, g4, c4, bS, cS, vq, ⟨hpr, ?_, ?_, ?_, h.sc, ?_, ?_, h.gp, ⟨h.sp.1, hsp⟩, ⟨by omega, fun e => by have := (hqr g4 e).2; omega⟩, ⟨h.ss.1, hqv bS lS h.ss.2⟩, hgp, h.tp, ?_⟩, fun k e => (co.mv k e).elim (hs k) (fun h3 => Nat.le_trans hS h3)⟩, ⟨hot.os.trans (hb.os.trans co.but.os), hot.tape.trans (hb.tape.trans co.but.tape), hot.output.trans (hb.output.trans co.but.output), by rw [hsz]; omega, fun k hk hp hq hv => (hot.block k hp).trans ((hb.block k (by omega)).trans (co.but.block k hk hq hv))⟩⟩
    · exact hfx.mv fun b i u hx hu => (cellE (hot.block b (h.sf b hx).2)).trans hu
    · exact (cellE (hot.block g4 hgp)).trans hv.c
    · exact ((cS' _ _ _ _ co).below hb).keep (hot.block bS h.tp)
    · exact Qh_keep (co.qh.below hb) (hot.block q (Ne.symm h.sp.1)) fun k e => hot.block k fun e2 => hsp (e2 ▸ e)
    · rw [hsz]; have := h.hB; omega
    · exact fun b hx => ⟨⟨(h.sf b hx).1.1, hqv b (hlt b hx) (h.sf b hx).1.2⟩, (h.sf b hx).2⟩
set_option maxHeartbeats 1000000 in
theorem through0b_c (B p q : Nat) (hz : Int) (pp : Option Addr) (F bN cN bE cE bP bT cT bI bL cL : Nat) (ia : Option Addr) (ic bV cV bS cS : Nat) (v0 : Value) (w : World) (h : U0 B p q hz 0 ⟨#[120]⟩ pp F bN cN bE cE bP bT cT bI bL cL ia ic bV cV bS cS v0 w) :
    Calls Tryz.prog 23 #[.pointer (some ⟨p, 0, none⟩), .int .i64 3] w fun e w' => ∃ g c, e = .returned (.tuple #[.slice (some ⟨g, 0, none⟩) 1 c, .int .i64 0]) ∧ Hid (E1 w.heap.size g 5 1 ⟨#[49]⟩ 0 1 w') ∧ Hid (But3 p q v0.ownBlock w w') := by
  have lV := World.block_lt_of_cell? w ⟨bV, 0, none⟩ h.vv
  have lS := h.st.lt
  have lp := hLt h.pb
  have cP : ∀ vq a c W1, Co0 w B q v0 vq a c W1 → W1.heap[p]? = some (prC p F q 0 (.slice (some ⟨bS, 0, none⟩) 1 cS) 0 (.slice (some ⟨bV, 0, none⟩) 1 cV) pp) := fun vq a c W1 co => (co.but.block p lp h.sp.1 h.sp.2).trans h.pb
  have cF : ∀ vq a c W1, Co0 w B q v0 vq a c W1 → Fc0 hz F bN cN bE cE bP bT cT bI bL cL ia ic W1 := fun vq a c W1 co => h.fx.but co.but fun b hb => (h.sf b hb).1
  have cV' : ∀ vq a c W1, Co0 w B q v0 vq a c W1 → W1.cell? ⟨bV, 0, none⟩ = some (.string ⟨#[120]⟩) := fun vq a c W1 co => (cellE (co.but.block bV lV h.sv.1 h.sv.2)).trans h.vv
  have cS' : ∀ vq a c W1, Co0 w B q v0 vq a c W1 → C1 B bS 3 0 ⟨#[49]⟩ W1 := fun vq a c W1 co => h.st.keep (co.but.block bS lS h.ss.1 h.ss.2)
  have cW : ∀ vq a c W1, Co0 w B q v0 vq a c W1 → w.heap.size ≤ W1.heap.size := fun vq a c W1 co => co.but.size
  have mvP : ∀ {W1 W : World}, W1.heap[p]? = some (prC p F q 0 (.slice (some ⟨bS, 0, none⟩) 1 cS) 0 (.slice (some ⟨bV, 0, none⟩) 1 cV) pp) → Below W1.heap.size W1 W → W.heap[p]? = some (prC p F q 0 (.slice (some ⟨bS, 0, none⟩) 1 cS) 0 (.slice (some ⟨bV, 0, none⟩) 1 cV) pp) := fun h1 hb => (hb.block p (hLt h1)).trans h1
  have mvV : ∀ {W1 W : World}, W1.cell? ⟨bV, 0, none⟩ = some (.string ⟨#[120]⟩) → Below W1.heap.size W1 W → W.cell? ⟨bV, 0, none⟩ = some (.string ⟨#[120]⟩) := fun h1 hb => (hb.cell (p := ⟨bV, 0, none⟩) (World.block_lt_of_cell? _ ⟨bV, 0, none⟩ h1)).trans h1
  refine (through_g p F q bV cV 0 3 0 (some ⟨bS, 0, none⟩) 1 cS pp w
    (fun a n c W => n = 0 ∧ ∃ vq, Co0 w B q v0 vq a c W)
    (fun a n c sa sn sc ta tn tc W => n = 0 ∧ (sa = some ⟨bS, 0, none⟩ ∧ sn = 1 ∧ cS = sc) ∧ (tn = 0) ∧ ∃ vq a c W1, Co0 w B q v0 vq a c W1 ∧ Below W1.heap.size W1 W)
    (fun ta tn tc ga gn gc W => (tn = 0) ∧ gn = 1 ∧ GotsAt W ga [⟨#[49]⟩] ∧ ∃ vq a c W1, Co0 w B q v0 vq a c W1 ∧ Below W1.heap.size W1 W)
    (fun ta tn tc g4 c4 W => (tn = 0) ∧ ∃ vq a c W1, Co0 w B q v0 vq a c W1 ∧ Below W1.heap.size W1 W ∧ V1 W1.heap.size g4 ⟨#[49]⟩ W)
    (fun ta tn tc g4 c4 ua un uc W => (tn = 0) ∧ (un = 1) ∧ (∃ g, ua = some ⟨g, 0, none⟩ ∧ E1 w.heap.size g 5 1 ⟨#[49]⟩ 0 1 W) ∧ ∃ vq a c W1, Co0 w B q v0 vq a c W1 ∧ Below W1.heap.size W1 W ∧ V1 W1.heap.size g4 ⟨#[49]⟩ W)
    (fun ta tn tc g4 c4 ua un uc ca cn cc W => (tn = 0) ∧ (un = 1) ∧ (∃ g, ua = some ⟨g, 0, none⟩ ∧ E1 w.heap.size g 5 1 ⟨#[49]⟩ 0 1 W) ∧ (cn = 1) ∧ ∃ vq a c W1, Co0 w B q v0 vq a c W1 ∧ Below W1.heap.size W1 W ∧ V1 W1.heap.size g4 ⟨#[49]⟩ W)
    (fun ta tn tc g4 c4 ua un uc pp' W => (tn = 0) ∧ (un = 1) ∧ (∃ g, ua = some ⟨g, 0, none⟩ ∧ E1 w.heap.size g 5 1 ⟨#[49]⟩ 0 1 W) ∧ (True) ∧ ∃ vq a c W1, Co0 w B q v0 vq a c W1 ∧ Below W1.heap.size W1 W ∧ V1 W1.heap.size g4 ⟨#[49]⟩ W)
    (by omega) (by omega) ?h1 ?h2 ?p2 ?d2 ?h3 ?p3 ?h4 ?p4 ?h5 ?p5 ?d5 ?hl ?h6 ?p6 ?h7 ?p7).mono ?fin
  case h1 => exact due0 B p F q 0 0 3 _ _ v0 pp w h.pb h.qh h.hB h.sp.1 h.sp.2
  case h2 =>
    rintro a n c W ⟨hn, vq, co⟩
    refine (cut_yes p F q bS cS 0 0 3 _ pp W (cP _ _ _ _ co) (cS' _ _ _ _ co).c0 h.sc).mono ?_
    rintro e w' ⟨ao, c2, rfl, hb⟩
    exact ⟨_, _, _, _, _, _, rfl, hn, ⟨rfl, rfl, rfl⟩, rfl, vq, a, c, W, co, hb⟩
  case p2 =>
    rintro a n c sa sn sc ta tn tc W ⟨_, _, _, vq, a', c', W1, co, hb⟩
    exact mvP (cP _ _ _ _ co) hb
  case d2 =>
    rintro a n c sa sn sc ta tn tc W ⟨h1, h2, h3, vq, a', c', W1, co, hb⟩
    exact ⟨h1, h2, h3, vq, a', c', W1, co, hb.drew⟩
  case h3 =>
    rintro a n c sa sn sc ta tn tc W ⟨rfl, ⟨rfl, rfl, rfl⟩, ht, vq, a', c', W1, co, hb⟩
    have hs := (cS' _ _ _ _ co).below hb
    refine (gets0_one2 a c F bN cN bE cE bP bT cT bI bL cL bS cS hz 3 ⟨#[49]⟩ ia ic W ((cF _ _ _ _ co).below hb) hs.c0 hs.c1 hs.c2).mono ?_
    rintro e w' ⟨ga, gc, rfl, hg, hb2⟩
    exact ⟨ga, 1, gc, rfl, ht, rfl, hg.out, vq, a', c', W1, co, bel hb hb2⟩
  case p3 =>
    rintro ta tn tc ga gn gc W ⟨_, _, _, vq, a', c', W1, co, hb⟩
    exact mvP (cP _ _ _ _ co) hb
  case h4 =>
    rintro ta tn tc ga gn gc W ⟨ht, rfl, hg, vq, a', c', W1, co, hb⟩
    refine (settled0_c F bN cN bE cE bP bT cT bI bL cL hz ia ic bV cV ⟨#[120]⟩ ga [⟨#[49]⟩] gc W ((cF _ _ _ _ co).below hb) (mvV (cV' _ _ _ _ co) hb) hg (by decide)).mono ?_
    rintro e w' ⟨g4, c4, rfl, hv, hb2⟩
    exact ⟨g4, c4, rfl, ht, vq, a', c', W1, co, bel hb hb2, ⟨by have := hv.out.ge; have := hb.size; omega, hv.out.c, hv.out.f⟩⟩
  case p4 =>
    rintro ta tn tc g4 c4 W ⟨_, vq, a', c', W1, co, hb, _⟩
    exact mvP (cP _ _ _ _ co) hb
  case h5 =>
    rintro ta tn tc g4 c4 W ⟨ht, vq, a', c', W1, co, hb, hv⟩
    refine (sends0_diff p F q bN cN bE cE bP bT cT bI bL cL g4 c4 hz 0 0 3 ⟨#[120]⟩ ⟨#[49]⟩ ia ic _ _ pp W (mvP (cP _ _ _ _ co) hb) ((cF _ _ _ _ co).below hb) hv.c (by omega) (by omega) (by omega) (by omega) (ne_list (by decide)) (fun X hX => sent0_old p F q bV cV 0 0 ⟨#[120]⟩ _ pp X (mvP (mvP (cP _ _ _ _ co) hb) hX) (by omega) (mvV (mvV (cV' _ _ _ _ co) hb) hX))).mono ?_
    rintro e w' ⟨g, cg, rfl, he, hb2⟩
    exact ⟨some ⟨g, 0, none⟩, 1, cg, rfl, (by show (1 : Nat) ≤ 1000; omega), ht, rfl, ⟨g, rfl, ⟨by have := he.out.ge; have := hb.size; have := cW _ _ _ _ co; omega, he.out.c0, he.out.c1, he.out.c2, he.out.c3, he.out.c4, he.out.c5⟩⟩, vq, a', c', W1, co, bel hb hb2, hv.below hb2⟩
  case p5 =>
    rintro ta tn tc g4 c4 ua un uc W ⟨_, _, _, vq, a', c', W1, co, hb, _⟩
    exact mvP (cP _ _ _ _ co) hb
  case d5 =>
    rintro ta tn tc g4 c4 ua un uc W ⟨h1, h2, h3, vq, a', c', W1, co, hb, hv⟩
    exact ⟨h1, h2, (by obtain ⟨g, a1, a2⟩ := h3; exact ⟨g, a1, a2.keep rfl⟩), vq, a', c', W1, co, hb.drew, hv.keep rfl⟩
  case hl =>
    rintro ta tn tc g4 c4 ua un uc W ⟨_, _, _, vq, a', c', W1, co, hb, _⟩
    exact ⟨0, by omega, Q.len_c B q 4096 vq [] W (co.qh.below hb).b⟩
  case h6 =>
    rintro ta tn tc g4 c4 ua un uc W ⟨h1, h2, h3, vq, a', c', W1, co, hb, hv⟩
    refine (changes0_diff F bN cN bE cE bP bT cT bI bL cL hz 3 ia ic bV cV g4 c4 ⟨#[120]⟩ ⟨#[49]⟩ W ((cF _ _ _ _ co).below hb) (mvV (cV' _ _ _ _ co) hb) hv.c (ne_list (by decide))).mono ?_
    rintro e w' ⟨bC, cC, rfl, hc, hb2⟩
    exact ⟨some ⟨bC, 0, none⟩, 1, cC, rfl, h1, h2, (by obtain ⟨g, a1, a2⟩ := h3; exact ⟨g, a1, a2.below hb2⟩), rfl, vq, a', c', W1, co, bel hb hb2, hv.below hb2⟩
  case p6 =>
    rintro ta tn tc g4 c4 ua un uc ca cn cc W ⟨_, _, _, _, vq, a', c', W1, co, hb, _⟩
    exact mvP (cP _ _ _ _ co) hb
  case h7 =>
    rintro ta tn tc g4 c4 ua un uc ca cn cc W ⟨h1, h2, h3, h4, vq, a', c', W1, co, hb, hv⟩
    subst h4
    refine (with_one pp _ cc W).mono ?_
    rintro e w' ⟨rfl, rfl⟩
    have hb2 := belA (Below.refl W.heap.size W) (.cells #[.pointer pp, .slice ca 1 cc] 108)
    exact ⟨_, rfl, h1, h2, (by obtain ⟨g, a1, a2⟩ := h3; exact ⟨g, a1, a2.below hb2⟩), trivial, vq, a', c', W1, co, bel hb hb2, hv.below hb2⟩
  case p7 =>
    rintro ta tn tc g4 c4 ua un uc pp' W ⟨_, _, _, _, vq, a', c', W1, co, hb, _⟩
    exact mvP (cP _ _ _ _ co) hb
  case fin =>
    rintro e w' ⟨ua, un, uc, rfl, ta, tn, tc, g4, c4, pp', W, h7, hw⟩
    obtain ⟨h1, h2, h3, h4, vq, a', c', W1, co, hb, hv⟩ := h7.out
    subst h1 h2
    obtain ⟨g, rfl, he⟩ := h3
    refine ⟨g, uc, rfl, ?_⟩
    rw [hw.out]
    have hot := fin_ot W p pp' (0 + ((1 : Nat) : Int)) 3 (.slice ta 0 tc) (.slice (some ⟨g4, 0, none⟩) 1 c4)
    generalize fin5 W p pp' (0 + ((1 : Nat) : Int)) 3 (.slice ta 0 tc) (.slice (some ⟨g4, 0, none⟩) 1 c4) = W' at hot ⊢
    have h1 := co.but.size
    have h2 := hb.size
    have hge := he.ge
    refine ⟨he.keep (hot.block g (by omega)), ⟨hot.os.trans (hb.os.trans co.but.os), hot.tape.trans (hb.tape.trans co.but.tape), hot.output.trans (hb.output.trans co.but.output), by rw [hot.size]; omega, fun k hk hp hq hv => (hot.block k hp).trans ((hb.block k (by omega)).trans (co.but.block k hk hq hv))⟩⟩
end Go.Proofs.YtokepgnnepjiaaaGreat
