/- LpTakes. -/
import Derived.Test.YtokepgnnepjiaaaGreatQS
import Derived.Test.YtokepgnnepjiaaaGreatEvZ
namespace Go.Proofs.YtokepgnnepjiaaaGreat
set_option maxRecDepth 100000
open Go.RowKit Lg Nl Go.Maps
set_option linter.unusedVariables false
set_option linter.unusedSimpArgs false

/-- where the law is: what it has taken, the process -/
structure LtS (w : World) (B p q : Nat) (i : Nat) (a : Option Addr) (n c : Nat) (hv l : List Q.Qu.Ev) (d : Int) (v : ByteArray) (pp : Option Addr) (N : Nat) (vq : Value) (W : World) : Prop where
  hn : n = hv.length
  hi : hv.length ≤ i
  x1 : X1 B p q 100 d v l pp N vq W
  row : Q.EvS N W (.slice a n c) hv
  sep : ∀ k, (Value.slice a n c).ownBlock = some k → vq.ownBlock ≠ some k
  pm : l.Perm hv
  ok : ∀ x ∈ hv, okE x ∧ d < x.t
  ds : hv.Pairwise fun x y => x.sq ≠ y.sq
  bw : Below w.heap.size w W
  lo : w.heap.size ≤ B
  hN : N ≤ W.heap.size
def LtE (w : World) (B p q : Nat) (i : Nat) (ph : Int → Prop) (a : Option Addr) (n c : Nat) (W : World) : Prop := ∃ hv l d v pp N vq, LtS w B p q i a n c hv l d v pp N vq W ∧ ph d
def Ph (m : Int) (i : Nat) (d : Int) : Prop := (d = -1 ∧ (i : Int) ≤ 1 + m) ∨ (d = 0 ∧ 1 + m < (i : Int))
theorem LtS.keep {w : World} {B p q i : Nat} {a : Option Addr} {n c : Nat} {hv l : List Q.Qu.Ev} {d : Int} {v : ByteArray} {pp : Option Addr} {N : Nat} {vq : Value} {W W' : World} (h : LtS w B p q i a n c hv l d v pp N vq W) (hb : Below W.heap.size W W') : LtS w B p q i a n c hv l d v pp N vq W' :=
  ⟨h.hn, h.hi, h.x1.below hb, Q.own_at h.row fun k e => hb.block k (World.ownsRow.lt h.row k e).2, h.sep, h.pm, h.ok, h.ds, bel h.bw hb, h.lo, Nat.le_trans h.hN hb.size⟩
theorem evS_at {B : Nat} {W : World} {a : Option Addr} {n c : Nat} {l : List Q.Qu.Ev} (h : Q.EvS B W (.slice a n c) l) (k : Nat) (hk : k < l.length) : ∃ gb, a = some ⟨gb, 0, none⟩ ∧ gb < W.heap.size ∧ B ≤ gb ∧ W.cell? ⟨gb, k * 6, none⟩ = some (.int .i64 (Q.Qu.g l k).t) ∧ W.cell? ⟨gb, k * 6 + 1, none⟩ = some (.int .i64 (Q.Qu.g l k).nd) ∧ W.cell? ⟨gb, k * 6 + 2, none⟩ = some (.string (Q.Qu.g l k).v) ∧ W.cell? ⟨gb, k * 6 + 3, none⟩ = some (.int .i64 (Q.Qu.g l k).fr) ∧ W.cell? ⟨gb, k * 6 + 4, none⟩ = some (.int .i64 (Q.Qu.g l k).sq) ∧ W.cell? ⟨gb, k * 6 + 5, none⟩ = some (.bool (Q.Qu.g l k).an) := by
  have h' := h
  rcases h.2 with ⟨_, z⟩ | ⟨g', cap', cur, e, _⟩
  · omega
  · injection e with e1 e2 e3
    subst e1 e2 e3
    have hr : Q.EvR B W g' c l := h'
    exact ⟨g', rfl, hr.lt, hr.ge, hr.cells k hk⟩
def flt (l : List Q.Qu.Ev) : List Q.Qu.Ev := l.filter fun y => decide (0 < y.t)
theorem flt_take (hv : List Q.Qu.Ev) (k : Nat) (hk : k < hv.length) : flt (hv.take (k + 1)) = if 0 < (Q.Qu.g hv k).t then flt (hv.take k) ++ [Q.Qu.g hv k] else flt (hv.take k) := by
  unfold flt
  rw [List.take_add_one, List.getElem?_eq_getElem hk, List.filter_append, Q.Qu.g_at hk]
  split <;> rename_i h <;> simp [h]
theorem evs_in {w : World} {ao : Option Addr} {n cap : Nat} {l : List Q.Qu.Ev} (h : Q.EvsAt w (.slice ao n cap) l) (k : Nat) (hk : k < l.length) : ∃ gb o, ao = some ⟨gb, o, none⟩ ∧ gb < w.heap.size ∧ w.cell? ⟨gb, o + k * 6, none⟩ = some (.int .i64 (Q.Qu.g l k).t) ∧ w.cell? ⟨gb, o + k * 6 + 1, none⟩ = some (.int .i64 (Q.Qu.g l k).nd) ∧ w.cell? ⟨gb, o + k * 6 + 2, none⟩ = some (.string (Q.Qu.g l k).v) ∧ w.cell? ⟨gb, o + k * 6 + 3, none⟩ = some (.int .i64 (Q.Qu.g l k).fr) ∧ w.cell? ⟨gb, o + k * 6 + 4, none⟩ = some (.int .i64 (Q.Qu.g l k).sq) ∧ w.cell? ⟨gb, o + k * 6 + 5, none⟩ = some (.bool (Q.Qu.g l k).an) := by
  obtain ⟨ao', cap', e, hc, h⟩ := h
  injection e with e1 e2 e3
  subst e1 e3
  rcases h with h | ⟨g, o, rfl, hg, h⟩
  · subst h; simp at hk
  · rw [Q.Qu.g_at hk]
    exact ⟨g, o, rfl, hg, h k hk 0 _ rfl, h k hk 1 _ rfl, h k hk 2 _ rfl, h k hk 3 _ rfl, h k hk 4 _ rfl, h k hk 5 _ rfl⟩
theorem okE_iff (x : Q.Qu.Ev) : okE x ↔ x.nd = 1 ∧ x.fr = 0 ∧ (x.v = ⟨#[48]⟩ ∨ x.v = ⟨#[49]⟩ ∨ x.v = ⟨#[120]⟩ ∨ x.v = ⟨#[122]⟩) := by
  unfold okE
  constructor
  · rintro ⟨h1, h2, h3, h4⟩
    refine ⟨h1, h2, ?_⟩
    obtain ⟨t, nd, ⟨⟨bs⟩⟩, fr, sq, an⟩ := x
    match bs, h3, h4 with
    | [b], _, h4 =>
      have key : ∀ b : UInt8, chkE [b] = 0 → b = 48 ∨ b = 49 ∨ b = 120 ∨ b = 122 := by
        intro b hb
        have hb2 : bitB b = true := by
          by_cases h : bitB b = true
          · exact h
          · exfalso; unfold chkE vec at hb; simp [h] at hb
        unfold bitB at hb2
        simpa [or_assoc] using hb2
      rcases key b h4 with rfl | rfl | rfl | rfl
      · exact Or.inl rfl
      · exact Or.inr (Or.inl rfl)
      · exact Or.inr (Or.inr (Or.inl rfl))
      · exact Or.inr (Or.inr (Or.inr rfl))
  · rintro ⟨h1, h2, h⟩
    refine ⟨h1, h2, ?_⟩
    rcases h with h | h | h | h <;> rw [h] <;> exact ⟨rfl, by decide⟩
theorem LtS.up {w : World} {B p q i : Nat} {a : Option Addr} {n c : Nat} {hv l : List Q.Qu.Ev} {d : Int} {v : ByteArray} {pp : Option Addr} {N : Nat} {vq : Value} {W : World} (h : LtS w B p q i a n c hv l d v pp N vq W) {j : Nat} (hj : i ≤ j) : LtS w B p q j a n c hv l d v pp N vq W :=
  ⟨h.hn, Nat.le_trans h.hi hj, h.x1, h.row, h.sep, h.pm, h.ok, h.ds, h.bw, h.lo, h.hN⟩
theorem LtS.sepm {w : World} {B p q i : Nat} {a : Option Addr} {n c : Nat} {hv l : List Q.Qu.Ev} {d : Int} {v : ByteArray} {pp : Option Addr} {N : Nat} {vq : Value} {W : World} (h : LtS w B p q i a n c hv l d v pp N vq W) {vq' : Value} (hm : Q.Mv vq vq' W) : ∀ k, (Value.slice a n c).ownBlock = some k → vq'.ownBlock ≠ some k := fun k e e2 => by
  rcases hm k e2 with h3 | h3
  · exact h.sep k e h3
  · have := (World.ownsRow.lt h.row k e).2; omega
theorem LtS.rowm {w : World} {B p q i : Nat} {a : Option Addr} {n c : Nat} {hv l : List Q.Qu.Ev} {d : Int} {v : ByteArray} {pp : Option Addr} {N : Nat} {vq : Value} {W : World} (h : LtS w B p q i a n c hv l d v pp N vq W) {W' : World} (hb : Q.But2 q vq.ownBlock W W') : Q.EvS N W' (.slice a n c) hv :=
  Q.own_at h.row fun k e => hb.block k (World.ownsRow.lt h.row k e).2 (by have := (World.ownsRow.lt h.row k e).1; have := h.x1.lt.2.1; omega) (h.sep k e)
theorem LtS.bwm {w : World} {B p q i : Nat} {a : Option Addr} {n c : Nat} {hv l : List Q.Qu.Ev} {d : Int} {v : ByteArray} {pp : Option Addr} {N : Nat} {vq : Value} {W : World} (h : LtS w B p q i a n c hv l d v pp N vq W) {W' : World} (hb : Q.But2 q vq.ownBlock W W') : Below w.heap.size w W' :=
  belT h.bw (But2.low hb (fun k e => Nat.le_trans h.lo (h.x1.lt.2.2.2.2 k e).1) (Nat.le_trans h.lo h.x1.lt.2.2.2.1) h.bw.size)
theorem LtS.moved {w : World} {B p q i : Nat} {a : Option Addr} {n c : Nat} {hv l : List Q.Qu.Ev} {d : Int} {v : ByteArray} {pp : Option Addr} {N : Nat} {vq : Value} {W : World} (h : LtS w B p q i a n c hv l d v pp N vq W) {W' : World} {vq' : Value} {l' : List Q.Qu.Ev} (hx : X1 B p q 100 d v l' pp N vq' W') (hm : Q.Mv vq vq' W) (hb : Q.But2 q vq.ownBlock W W') (hp : l'.Perm hv) : LtS w B p q i a n c hv l' d v pp N vq' W' :=
  ⟨h.hn, h.hi, hx, h.rowm hb, h.sepm hm, hp, h.ok, h.ds, h.bwm hb, h.lo, Nat.le_trans h.hN hb.size⟩
theorem LtS.push {w : World} {B p q i : Nat} {a : Option Addr} {n c : Nat} {hv l : List Q.Qu.Ev} {d : Int} {v : ByteArray} {pp : Option Addr} {N : Nat} {vq : Value} {W : World} (h : LtS w B p q i a n c hv l d v pp N vq W) {W6 W9 : World} {vq' : Value} {l' : List Q.Qu.Ev} {x : Q.Qu.Ev} {g9 c9 : Nat} (hx : X1 B p q 100 d v l' pp N vq' W6) (hm : Q.Mv vq vq' W) (hb : Q.But2 q vq.ownBlock W W6) (hp : l'.Perm (x :: l)) (ho : okE x) (ht : d < x.t) (htw : tw hv x.sq = false)
    (hown : W9.ownsRow N 39 6 (.slice (some ⟨g9, 0, none⟩) (n + 1) c9) (n + 1) (Q.evs hv ++ Q.evC x)) (hg : (W6.alloc (Q.evB x)).grownBy W9 (Value.slice a n c).ownBlock) (hloc : (Value.slice (some ⟨g9, 0, none⟩) (n + 1) c9).ownBlock = (Value.slice a n c).ownBlock ∨ (Value.slice (some ⟨g9, 0, none⟩) (n + 1) c9).ownBlock = some (W6.heap.size + 1)) :
    LtS w B p q (i + 1) (some ⟨g9, 0, none⟩) (n + 1) c9 (hv ++ [x]) l' d v pp N vq' W9 := by
  have hr6 := h.rowm hb
  have hs6 := h.sepm hm
  have hz : W6.heap.size + 1 ≤ W9.heap.size := by have := hg.size; simpa using this
  have old : ∀ k, k < W6.heap.size → (Value.slice a n c).ownBlock ≠ some k → W9.heap[k]? = W6.heap[k]? := fun k hk hne => (hg.block k (by simp; omega) (fun e => hne e.symm)).trans (alOld hk)
  have hN6 := Nat.le_trans h.hN hb.size
  have hlo : ∀ k, k < N → (Value.slice a n c).ownBlock ≠ some k := fun k hk e => by have := (World.ownsRow.lt hr6 k e).1; omega
  have hb6 := h.bwm hb
  refine ⟨by rw [List.length_append, h.hn]; rfl, by rw [List.length_append]; have := h.hi; simp; omega, hx.keep (by omega) (fun k hk => old k (by omega) (hlo k hk)) (fun k e => old k (hx.lt.2.2.2.2 k e).2 fun e2 => hs6 k e2 e), ?_, ?_, ?_, ?_, ?_, ?_, h.lo, by omega⟩
  · unfold Q.EvS
    rw [List.length_append, ← h.hn, Q.evs_app]
    simpa [Q.evs] using hown
  · intro k e e2
    rcases hloc with h1 | h1
    · rw [h1] at e; exact hs6 k e e2
    · rw [h1] at e; injection e with e; have := (hx.lt.2.2.2.2 k e2).2; omega
  · exact hp.trans ((List.Perm.cons x h.pm).trans (List.perm_append_comm (l₁ := [x]) (l₂ := hv)))
  · intro y hy
    rcases List.mem_append.1 hy with hy | hy
    · exact h.ok y hy
    · simp at hy; subst hy; exact ⟨ho, ht⟩
  · refine List.pairwise_append.2 ⟨h.ds, List.pairwise_singleton _ _, fun y hy z hz => ?_⟩
    simp at hz
    subst hz
    intro e
    have : tw hv z.sq = true := List.any_eq_true.2 ⟨y, hy, by rw [beq_iff_eq]; exact e⟩
    rw [htw] at this
    cases this
  · refine ⟨hg.os.trans hb6.os, hg.tape.trans hb6.tape, hg.output.trans hb6.output, Nat.le_trans hb6.size (by omega), fun k hk => ?_⟩
    have h1 := hx.lt
    have h2 := h.lo
    have h3 := hb6.size
    refine (old k (by omega) (hlo k (by omega))).trans (hb6.block k hk)
/-- where the cancelling is -/
structure CnS (w : World) (B p q : Nat) (a : Option Addr) (n c : Nat) (hv l : List Q.Qu.Ev) (d : Int) (v : ByteArray) (pp : Option Addr) (N : Nat) (vq : Value) (W : World) : Prop where
  x1 : X1 B p q 100 d v l pp N vq W
  row : Q.EvS N W (.slice a n c) hv
  sep : ∀ k, (Value.slice a n c).ownBlock = some k → vq.ownBlock ≠ some k
  bw : Below w.heap.size w W
  lo : w.heap.size ≤ B
theorem CnS.below {w : World} {B p q : Nat} {a : Option Addr} {n c : Nat} {hv l : List Q.Qu.Ev} {d : Int} {v : ByteArray} {pp : Option Addr} {N : Nat} {vq : Value} {W : World} (h : CnS w B p q a n c hv l d v pp N vq W) {W' : World} (hb : Below W.heap.size W W') : CnS w B p q a n c hv l d v pp N vq W' :=
  ⟨h.x1.below hb, Q.own_at h.row fun k e => hb.block k (World.ownsRow.lt h.row k e).2, h.sep, bel h.bw hb, h.lo⟩
theorem CnS.moved {w : World} {B p q : Nat} {a : Option Addr} {n c : Nat} {hv l : List Q.Qu.Ev} {d : Int} {v : ByteArray} {pp : Option Addr} {N : Nat} {vq : Value} {W : World} (h : CnS w B p q a n c hv l d v pp N vq W) {W' : World} {vq' : Value} {l' : List Q.Qu.Ev} (hx : X1 B p q 100 d v l' pp N vq' W') (hm : Q.Mv vq vq' W) (hb : Q.But2 q vq.ownBlock W W') : CnS w B p q a n c hv l' d v pp N vq' W' :=
  ⟨hx, Q.own_at h.row fun k e => hb.block k (World.ownsRow.lt h.row k e).2 (by have := (World.ownsRow.lt h.row k e).1; have := h.x1.lt.2.1; omega) (h.sep k e), (fun k e e2 => by
    rcases hm k e2 with h3 | h3
    · exact h.sep k e h3
    · have := (World.ownsRow.lt h.row k e).2; omega), belT h.bw (But2.low hb (fun k e => Nat.le_trans h.lo (h.x1.lt.2.2.2.2 k e).1) (Nat.le_trans h.lo h.x1.lt.2.2.2.1) h.bw.size), h.lo⟩
theorem belDn {C B : Nat} {a b : World} (h : Below B a b) (hC : C ≤ B) : Below C a b := ⟨h.os, h.tape, h.output, h.size, fun k hk => h.block k (Nat.lt_of_lt_of_le hk hC)⟩
theorem dr_at (hv : List Q.Qu.Ev) (j : Nat) (hj : j < hv.length) : hv.drop j = Q.Qu.g hv j :: hv.drop (j + 1) := by rw [Q.Qu.g_at hj]; exact List.drop_eq_getElem_cons hj
theorem dr_has {l hv : List Q.Qu.Ev} {j : Nat} (hp : l.Perm (hv.drop j)) (ho : ∀ x ∈ hv, okE x) (hj : j < hv.length) : Q.hasK l 0 (Q.Qu.g hv j).sq = true := by
  rw [Q.hasK_iff]
  refine ⟨Q.Qu.g hv j, hp.symm.subset (by rw [dr_at hv j hj]; simp), (ho _ (Q.g_mem hj)).2.1, rfl⟩
theorem dr_next {l l5 hv : List Q.Qu.Ev} {x : Q.Qu.Ev} {j : Nat} (hp : l.Perm (hv.drop j)) (hq : l.Perm (x :: l5)) (hk : Q.isK 0 (Q.Qu.g hv j).sq x) (hd : hv.Pairwise fun x y => x.sq ≠ y.sq) (hj : j < hv.length) : l5.Perm (hv.drop (j + 1)) ∧ Q.hasK l5 0 (Q.Qu.g hv j).sq = false := by
  have h1 : (x :: l5).Perm (Q.Qu.g hv j :: hv.drop (j + 1)) := by rw [← dr_at hv j hj]; exact hq.symm.trans hp
  have h2 : (Q.Qu.g hv j :: hv.drop (j + 1)).Pairwise fun x y => x.sq ≠ y.sq := by rw [← dr_at hv j hj]; exact hd.drop
  have h3 := (List.pairwise_cons.1 h2).1
  have hx : x = Q.Qu.g hv j := by
    rcases List.mem_cons.1 (h1.subset (List.mem_cons_self)) with e | e
    · exact e
    · exact absurd hk.2.symm (h3 x e)
  subst hx
  have h4 := List.Perm.cons_inv h1
  refine ⟨h4, ?_⟩
  rw [Q.hasK_no]
  intro y hy hyk
  exact h3 y (h4.subset hy) hyk.2.symm
set_option maxHeartbeats 8000000 in
set_option maxRecDepth 100000 in
theorem LpTakes_c (lv : Value) (ls : List Q.Qu.Ev) (st : Int) (w : World) (hI : Q.EvsAt w lv ls) : Calls Tryz.prog 3 #[lv, .int .i64 st] w fun e w' => e = .returned (.bool true) ∧ Below w.heap.size w w' := by
  have HI : Hid (Q.EvsAt w lv ls) := hI
  obtain ⟨ao, cap, rfl, hcap, hls⟩ := hI
  clear hls hcap
  obtain ⟨m, hm, m1, m2⟩ : ∃ m : Int, bits .and .i64 st 7 = m ∧ 0 ≤ m ∧ m ≤ 7 := ⟨st % 8, i64_and7 st, by omega, by omega⟩
  have HAw : Hid (∀ W, Calls Tryz.prog 12 #[] W fun e w' => e = .returned (.bool true) ∧ Below W.heap.size W w') := awake15_c
  go_enter Tryz.func3, Tryz.ntmps3
  go_wp2_with (first
    | (go_at_call 5; refine (two_c _).mono ?_; rintro e w1 ⟨NN, I, NT, O, M, A, BB, rfl, HT, hb1⟩; have HB1 : Hid (Below w.heap.size w w1) := hb1; clear hb1))
  obtain ⟨W0, hW0⟩ : ∃ W0, W0 = (w1.alloc (.cells #[.slice (some ⟨NN, 0, none⟩) 2 2, .slice (some ⟨NT, 0, none⟩) 2 2, .int .i64 2] 26)).alloc (.cells #[.slice (some ⟨O, 0, none⟩) 2 2, .int .i64 2, .slice (some ⟨M, 0, none⟩) 2 2] 29) := ⟨_, rfl⟩
  rw [← hW0]
  have HB0 : Hid (Below w1.heap.size w1 W0) := by rw [hW0]; exact belA (belA (Below.refl _ _) _) _
  clear hW0
  refine (new1_c NN I NT O M A BB 100 W0 (HT.out.below HB0.out) (by omega) (by omega)).mono ?_
  rintro e w2 ⟨p, q, rfl, HU, HG, hb2⟩
  have H0 : Hid (LtE w W0.heap.size p q 0 (Ph m 0) none 0 0 w2) := by
    obtain ⟨vq, hx⟩ := (HU.out 0).x1
    exact ⟨[], [], -1, _, none, _, vq, ⟨rfl, Nat.le_refl _, hx, World.ownsRow_nil _ _ _ _, (fun k e => by cases e), List.Perm.refl _, (fun x hx => by simp at hx), List.Pairwise.nil, bel (bel HB1.out HB0.out) hb2, Nat.le_trans HB1.out.size HB0.out.size, Nat.le_refl _⟩, Or.inl ⟨rfl, by omega⟩⟩
  obtain ⟨B, hB⟩ : ∃ B, B = W0.heap.size := ⟨_, rfl⟩
  rw [← hB] at H0
  clear hB hb2 HU HG HB0 HB1 HT
  go_wp2_with fail
  go_loopg [9, 10] 100 (fun g s9 s10 wr => ∃ (i : Nat) (a : Option Addr) (n c : Nat), i ≤ 100 ∧ g = 100 - i ∧ s9 = .slice a n c ∧ s10 = .int .i64 i ∧ Hid (LtE w B p q i (Ph m i) a n c wr))
  case atStart => exact ⟨0, none, 0, 0, by omega, rfl, rfl, rfl, H0.out⟩
  case round =>
    obtain ⟨i, a, n, c, hi, rfl, rfl, rfl, HL⟩ := hrel
    by_cases hlt : i < ls.length ∧ i < 100
    · obtain ⟨h1, h2⟩ := hlt
      have i1 : (i : Int) < (ls.length : Int) := by omega
      have i2 : (i : Int) < 100 := by omega
      go_upto_if 50 with fail
      go_cut [9, 11, 12] from 36 to 164 (fun s9 s11 s12 wc => ∃ (a : Option Addr) (n c : Nat), s9 = .slice a n c ∧ Hid (LtE w B p q i (Ph m (i + 1)) a n c wc))
      case first =>
        by_cases he : (i : Int) = 1 + m
        · obtain ⟨hv, l, d, v, pp, N, vq, hs, hp⟩ := HL.out
          have hd : d = -1 := by rcases hp with ⟨a1, _⟩ | ⟨_, a2⟩; exact a1; omega
          subst hd
          have HS : Hid (LtS w B p q i a n c hv l (-1) v pp N vq wr) := hs
          have HHe : Hid ((i : Int) = 1 + m) := he
          have he' : ((i : Int) == 1 + m) = true := by rw [beq_iff_eq]; exact he
          clear hs hp he HL
          go_wp2_with (first
            | (go_at_call 7; refine (stepX HS.out.x1 (by have := HS.out.pm.length_eq; have := HS.out.hi; omega) (fun x hx => (HS.out.ok x (HS.out.pm.subset hx)).1.1) (fun x hx => by have := (HS.out.ok x (HS.out.pm.subset hx)).2; omega)).mono ?_; rintro e w3 ⟨rfl, vq3, v3, pp3, ds, rest, HX3, HP3, HB3⟩))
          have HR3 : Hid (Q.EvS N w3 (.slice a n c) hv) := by
            have hr := HS.out.row
            have hlt := HS.out.x1.lt
            refine Q.own_at hr fun k e => HB3.out.block k (World.ownsRow.lt hr k e).2 ?_ ?_ (HS.out.sep k e)
            · have := (World.ownsRow.lt hr k e).1; omega
            · have := (World.ownsRow.lt hr k e).1; omega
          have HN3 : Hid (n = hv.length ∧ n ≤ 100) := ⟨HS.out.hn, by have := HS.out.hn; have := HS.out.hi; omega⟩
          go_loopg [11, 12] n (fun g s11 s12 wx => ∃ (k : Nat) (a2 : Option Addr) (n2 c2 : Nat), k ≤ n ∧ g = n - k ∧ s11 = .slice a2 n2 c2 ∧ s12 = .int .i64 k ∧ Hid (n2 = (flt (hv.take k)).length) ∧ Hid (wx.ownsRow w3.heap.size 39 6 (.slice a2 n2 c2) n2 (Q.evs (flt (hv.take k)))) ∧ Hid (Below w3.heap.size w3 wx))
          case atStart => exact ⟨0, none, 0, 0, by omega, rfl, rfl, rfl, rfl, World.ownsRow_nil _ _ _ _, Below.refl _ _⟩
          case round =>
            obtain ⟨k, a2, n2, c2, hk, rfl, rfl, rfl, HN2, HR2, HBx⟩ := hrel
            obtain ⟨wx, hwx⟩ : ∃ wx, wx = wr := ⟨_, rfl⟩
            rw [← hwx] at HR2 HBx ⊢
            clear hwx
            by_cases hkn : k < n
            · obtain ⟨gb, rfl, hgl, hgb, e0, e1, e2, e3, e4, e5⟩ := evS_at HR3.out k (by have := HN3.out.1; omega)
              have e0' := (HBx.out.cell (p := ⟨gb, k * 6, none⟩) hgl).trans e0
              have e1' := (HBx.out.cell (p := ⟨gb, k * 6 + 1, none⟩) hgl).trans e1
              have e2' := (HBx.out.cell (p := ⟨gb, k * 6 + 2, none⟩) hgl).trans e2
              have e3' := (HBx.out.cell (p := ⟨gb, k * 6 + 3, none⟩) hgl).trans e3
              have e4' := (HBx.out.cell (p := ⟨gb, k * 6 + 4, none⟩) hgl).trans e4
              have e5' := (HBx.out.cell (p := ⟨gb, k * 6 + 5, none⟩) hgl).trans e5
              have hgx := Nat.lt_of_lt_of_le hgl HBx.out.size
              have HXx : Hid (X1 B p q 100 0 v3 rest pp3 w3.heap.size vq3 wx) := HX3.out.keep HBx.out.size (fun k hk => HBx.out.block k hk) (fun k e => HBx.out.block k (HX3.out.lt.2.2.2.2 k e).2)
              have HDn : Hid (∀ j, Calls Tryz.prog 8 #[.pointer (some ⟨p, 0, none⟩)] (wx.drewN j) fun e w' => e = .returned (.int .i64 0) ∧ w' = wx.drewN j) := fun j => doneX (HXx.out.below (Q.belDN (Below.refl _ _) j))
              have k1 : (k : Int) < (n : Int) := by omega
              have k0 : (0 : Int) ≤ (k : Int) := by omega
              have k2 : (k : Int) < 100 := by have := HN3.out.2; omega
              have HTk : Hid (flt (hv.take (k + 1)) = if 0 < (Q.Qu.g hv k).t then flt (hv.take k) ++ [Q.Qu.g hv k] else flt (hv.take k)) := flt_take hv k (by have := HN3.out.1; omega)
              have HLn : Hid ((flt (hv.take k)).length ≤ 100) := by have h1 : (flt (hv.take k)).length ≤ (hv.take k).length := List.length_filter_le _ _; have h2 : (hv.take k).length ≤ k := List.length_take_le _ _; have := HN3.out.2; show _ ≤ _; omega
              clear e0 e1 e2 e3 e4 e5
              generalize Q.Qu.g hv k = y at e0' e1' e2' e3' e4' e5' HTk
              obtain ⟨yt, yn, yv, yf, ys, ya⟩ := y
              simp only at e0' e1' e2' e3' e4' e5'
              obtain ⟨j, hj⟩ := Q.infoEv
              have HJ : Hid (Tryz.prog.info? 39 = some j ∧ j.zero = some (Q.evG Q.Qu.ev0) ∧ j.size = 6 ∧ j.bytes = 56) := hj
              clear hj
              by_cases ht : 0 < yt
              · have ht' : decide (0 < yt) = true := decide_eq_true ht
                have HT : Hid (0 < yt) := ht
                go_wp2_with fail
                go_quiet (first | (go_at_call 8; exact Calls.quiet_of_same (HDn.out _)))
                rename_i nq
                obtain ⟨w5, hw5⟩ : ∃ w5, w5 = wx.drewN nq := ⟨_, rfl⟩
                have HR5 : Hid (w5.ownsRow w3.heap.size 39 6 (.slice a2 n2 c2) n2 (Q.evs (flt (hv.take k)))) := by rw [hw5]; exact Q.own_at HR2.out fun _ _ => rfl
                have HB5 : Hid (Below w3.heap.size w3 w5) := by rw [hw5]; exact Q.belDN HBx.out nq
                have HZ5 : Hid (w5.heap.size = wx.heap.size) := by rw [hw5]; rfl
                have f0 : w5.cell? ⟨gb, k * 6, none⟩ = some (.int .i64 yt) := by rw [hw5]; exact e0'
                have f1 : w5.cell? ⟨gb, k * 6 + 1, none⟩ = some (.int .i64 yn) := by rw [hw5]; exact e1'
                have f2 : w5.cell? ⟨gb, k * 6 + 2, none⟩ = some (.string yv) := by rw [hw5]; exact e2'
                have f3 : w5.cell? ⟨gb, k * 6 + 3, none⟩ = some (.int .i64 yf) := by rw [hw5]; exact e3'
                have f4 : w5.cell? ⟨gb, k * 6 + 4, none⟩ = some (.int .i64 ys) := by rw [hw5]; exact e4'
                have f5 : w5.cell? ⟨gb, k * 6 + 5, none⟩ = some (.bool ya) := by rw [hw5]; exact e5'
                have lg5 : gb < w5.heap.size := by rw [hw5]; exact hgx
                rw [← hw5]
                clear hw5 e0' e1' e2' e3' e4' e5' ht
                go_wp2_with (first
                  | (at_builtin; refine wpList_append_own_at _ rfl _ _ 22 rfl w3.heap.size 39 j _ 6 56 Tryz.underlying22 HJ.out.1 HJ.out.2.1 HJ.out.2.2.1 HJ.out.2.2.2 rfl (by decide) _ n2 (Q.evs (flt (hv.take k))) rfl (HR5.out.alloc _) ⟨w5.heap.size, 0, none⟩ 1 1 [.int .i64 yt, .int .i64 yn, .string yv, .int .i64 yf, .int .i64 ys, .bool ya] rfl rfl (fun j u hj => Q.new6 _ ⟨yt, yn, yv, yf, ys, ya⟩ 39 _ rfl j u hj) (Q.one6 ⟨yt, yn, yv, yf, ys, ya⟩) (by have := HN2.out; have := HLn.out; unfold maxLen; omega) (by have := HN2.out; have := HLn.out; omega) (by have := HBx.out.size; have := HZ5.out; simp; omega) ?_; intro v9 w9 hown9 hgrow9 hnil9 hloc9; obtain ⟨g9, c9, rfl⟩ := own_slice1 hown9; have HO9 : Hid (w9.ownsRow w3.heap.size 39 6 (.slice (some ⟨g9, 0, none⟩) (n2 + 1) c9) (n2 + 1) (Q.evs (flt (hv.take k)) ++ Q.evC ⟨yt, yn, yv, yf, ys, ya⟩)) := hown9; have HG9 : Hid ((w5.alloc (Q.evB ⟨yt, yn, yv, yf, ys, ya⟩)).grownBy w9 (Value.slice a2 n2 c2).ownBlock) := hgrow9; clear hown9 hgrow9 hnil9 hloc9))
                go_roundg (n - (k + 1))
                case measure => omega
                case rel =>
                  have hT := HTk.out
                  rw [if_pos HT.out] at hT
                  have hg := HG9.out
                  refine ⟨k + 1, some ⟨g9, 0, none⟩, n2 + 1, c9, by omega, rfl, rfl, by go_num, ?_, ?_, ?_⟩
                  · show n2 + 1 = _; rw [hT, List.length_append, ← HN2.out]; rfl
                  · have := HO9.out; rw [hT, Q.evs_app]; show World.ownsRow _ _ _ _ _ _ _; simpa [Q.evs] using this
                  · have h5 := HB5.out
                    refine ⟨hg.os.trans h5.os, hg.tape.trans h5.tape, hg.output.trans h5.output, Nat.le_trans h5.size (Nat.le_trans (by simp) hg.size), fun k hk => ?_⟩
                    refine (hg.block k (by have := h5.size; simp; omega) fun e => ?_).trans ((alOld (by have := h5.size; omega)).trans (h5.block k hk))
                    have := (World.ownsRow.lt HR5.out k e.symm).1
                    omega
              · have ht' : decide (0 < yt) = false := decide_eq_false ht
                have HT : Hid (¬ 0 < yt) := ht
                clear ht
                go_wp2_with fail
                go_quiet (first | (go_at_call 8; exact Calls.quiet_of_same (HDn.out _)))
                go_wp2_with fail
                go_roundg (n - (k + 1))
                case measure => omega
                case rel =>
                  have hT := HTk.out
                  rw [if_neg (show ¬ (0 < yt) by have := HT.out; omega)] at hT
                  refine ⟨k + 1, a2, n2, c2, by omega, rfl, rfl, by go_num, ?_, ?_, ?_⟩
                  · rw [hT]; exact HN2.out
                  · rw [hT]; exact Q.own_at HR2.out fun _ _ => rfl
                  · exact Q.belDN HBx.out _
            · obtain rfl : k = n := by omega
              go_wp2_with fail
              go_meet
              have hs := HS.out
              have hkl : hv.take k = hv := List.take_of_length_le (by have := HN3.out.1; omega)
              have hR := HR2.out
              have hn2 := HN2.out
              rw [hkl] at hR hn2
              have hlt := hs.x1.lt
              have hl3 := HX3.out.lt
              have hb3 : Below w.heap.size w w3 := belT hs.bw (HB3.out.low (S := B) (B := w.heap.size) (fun k e => (hlt.2.2.2.2 k e).1) (Nat.le_trans hs.lo hlt.2.2.1) (Nat.le_trans hs.lo hlt.2.2.2.1) hs.lo hs.bw.size)
              refine ⟨a2, n2, c2, rfl, flt hv, rest, 0, v3, pp3, w3.heap.size, vq3, ⟨hn2, ?_, HX3.out.keep HBx.out.size (fun k hk => HBx.out.block k hk) (fun k e => HBx.out.block k (hl3.2.2.2.2 k e).2), ?_, ?_, rest_perm hs.pm HP3.out.1 HP3.out.2.1 HP3.out.2.2, ?_, hs.ds.filter _, belT hb3 (belL HBx.out hb3.size), hs.lo, HBx.out.size⟩, Or.inr ⟨rfl, by have := HHe.out; omega⟩⟩
              · exact Nat.le_trans (List.length_filter_le _ _) hs.hi
              · unfold Q.EvS; rw [← hn2]; exact hR
              · intro k e e2
                have h1 := (World.ownsRow.lt hR k e).1
                have h2 := (hl3.2.2.2.2 k e2).2
                omega
              · intro x hx
                obtain ⟨h1, h2⟩ := List.mem_filter.1 hx
                exact ⟨(hs.ok x h1).1, of_decide_eq_true h2⟩
        · have he' : ((i : Int) == 1 + m) = false := by rw [beq_eq_false_iff_ne]; exact he
          go_wp2_with fail
          go_meet
          obtain ⟨hv, l, d, v, pp, N, vq, hs, hp⟩ := HL.out
          exact ⟨a, n, c, rfl, hv, l, d, v, pp, N, vq, hs, by rcases hp with ⟨a1, a2⟩ | ⟨a1, a2⟩; exact Or.inl ⟨a1, by omega⟩; exact Or.inr ⟨a1, by omega⟩⟩
      case rest =>
        obtain ⟨a, n, c, rfl, HL⟩ := hcut
        obtain ⟨hv, l, d, v, pp, N, vq, hs, hp⟩ := HL.out
        have HS : Hid (LtS w B p q i a n c hv l d v pp N vq wc) := hs
        have HD : Hid (Ph m (i + 1) d) := hp
        obtain ⟨lg, lof, rfl, hgl, x0, x1, x2, x3, x4, x5⟩ := evs_in (HI.out.below hs.bw (Nat.le_refl _)) i h1
        clear hs hp HL
        obtain ⟨x, hx⟩ : ∃ x, x = Q.Qu.g ls i := ⟨_, rfl⟩
        rw [← hx] at x0 x1 x2 x3 x4 x5
        clear hx
        obtain ⟨W1, hW1⟩ : ∃ W1, W1 = wc.alloc (.cells #[.int .i64 x.t, .int .i64 x.nd, .string x.v, .int .i64 x.fr, .int .i64 x.sq, .bool x.an] 39) := ⟨_, rfl⟩
        have HE1 : Hid (W1.heap[wc.heap.size]? = some (.cells #[.int .i64 x.t, .int .i64 x.nd, .string x.v, .int .i64 x.fr, .int .i64 x.sq, .bool x.an] 39 (0, 0))) := by rw [hW1]; exact alAt rfl
        have HBW1 : Hid (Below wc.heap.size wc W1) := by rw [hW1]; exact belA (Below.refl _ _) _
        go_upto_region 19 with fail
        rw [← hW1]
        clear hW1 x0 x1 x2 x3 x4 x5
        obtain ⟨⟨x0, x1, x2, x3, x4, x5⟩, _⟩ := Q.cell6 HE1.out
        have lE := hLt HE1.out
        obtain ⟨E, hE⟩ : ∃ E, E = wc.heap.size := ⟨_, rfl⟩
        rw [← hE] at x0 x1 x2 x3 x4 x5 HE1 lE ⊢
        have HEc : Hid (E = wc.heap.size) := hE
        clear hE
        go_cut [14] from 36 to 164 (fun s14 wd => s14 = .bool (decide (okE x)) ∧ wd = W1)
        case first =>
          have hok := okE_iff x
          by_cases n1 : x.nd = 1
          · have n1' : (x.nd == 1) = true := by rw [beq_iff_eq]; exact n1
            by_cases f1 : x.fr = 0
            · have f1' : (x.fr == 0) = true := by rw [beq_iff_eq]; exact f1
              by_cases v1 : x.v = ⟨#[48]⟩
              · rw [v1] at x2
                go_wp2_with fail
                go_meet
                exact ⟨congrArg Value.bool (decide_eq_true (hok.2 ⟨n1, f1, Or.inl v1⟩)).symm, rfl⟩
              · by_cases v2 : x.v = ⟨#[49]⟩
                · rw [v2] at x2
                  go_wp2_with fail
                  go_meet
                  exact ⟨congrArg Value.bool (decide_eq_true (hok.2 ⟨n1, f1, Or.inr (Or.inl v2)⟩)).symm, rfl⟩
                · by_cases v3 : x.v = ⟨#[120]⟩
                  · rw [v3] at x2
                    go_wp2_with fail
                    go_meet
                    exact ⟨congrArg Value.bool (decide_eq_true (hok.2 ⟨n1, f1, Or.inr (Or.inr (Or.inl v3))⟩)).symm, rfl⟩
                  · by_cases v4 : x.v = ⟨#[122]⟩
                    · rw [v4] at x2
                      go_wp2_with fail
                      go_meet
                      exact ⟨congrArg Value.bool (decide_eq_true (hok.2 ⟨n1, f1, Or.inr (Or.inr (Or.inr v4))⟩)).symm, rfl⟩
                    · have v1' : ¬ x.v.toList = [48] := fun h => by have h2 := ne_list v1; rw [beq_eq_false_iff_ne] at h2; exact h2 (h.trans (by first | rfl | decide | simp))
                      have v2' : ¬ x.v.toList = [49] := fun h => by have h2 := ne_list v2; rw [beq_eq_false_iff_ne] at h2; exact h2 (h.trans (by first | rfl | decide | simp))
                      have v3' : ¬ x.v.toList = [120] := fun h => by have h2 := ne_list v3; rw [beq_eq_false_iff_ne] at h2; exact h2 (h.trans (by first | rfl | decide | simp))
                      have v4' : ¬ x.v.toList = [122] := fun h => by have h2 := ne_list v4; rw [beq_eq_false_iff_ne] at h2; exact h2 (h.trans (by first | rfl | decide | simp))
                      have hno : ¬ okE x := fun h => by rcases (hok.1 h).2.2 with e | e | e | e; exact v1 e; exact v2 e; exact v3 e; exact v4 e
                      clear v1 v2 v3 v4 hok
                      go_wp2_with fail
                      go_meet
                      exact ⟨congrArg Value.bool (by rw [decide_eq_false hno]; simp [v1', v2', v3', v4']), rfl⟩
            · have f1' : (x.fr == 0) = false := by rw [beq_eq_false_iff_ne]; exact f1
              have hno : ¬ okE x := fun h => f1 (hok.1 h).2.1
              clear hok f1
              go_wp2_with fail
              go_meet
              exact ⟨congrArg Value.bool (decide_eq_false hno).symm, rfl⟩
          · have n1' : (x.nd == 1) = false := by rw [beq_eq_false_iff_ne]; exact n1
            have hno : ¬ okE x := fun h => n1 (hok.1 h).1
            clear hok n1
            go_wp2_with fail
            go_meet
            exact ⟨congrArg Value.bool (decide_eq_false hno).symm, rfl⟩
        case rest =>
          obtain ⟨rfl, hwd⟩ := hcut
          rw [hwd]
          clear hwd
          have HS1 : Hid (LtS w B p q i a n c hv l d v pp N vq W1) := HS.out.keep HBW1.out
          have HNn : Hid (n = hv.length ∧ n ≤ 100) := ⟨HS.out.hn, by have := HS.out.hn; have := HS.out.hi; omega⟩
          have HNE : Hid (N ≤ E ∧ q < E ∧ ∀ k, vq.ownBlock = some k → k < E) := ⟨by have := HS.out.hN; have := HEc.out; omega, by have := HS.out.x1.lt.2.1; have := HS.out.hN; have := HEc.out; omega, fun k e => by have := (HS.out.x1.lt.2.2.2.2 k e).2; have := HEc.out; omega⟩
          have hHE : Hid (∀ X, Below W1.heap.size W1 X → X.heap[E]? = some (.cells #[.int .i64 x.t, .int .i64 x.nd, .string x.v, .int .i64 x.fr, .int .i64 x.sq, .bool x.an] 39 (0, 0))) := fun X hX => (hX.block E lE).trans HE1.out
          go_wp2_with fail
          go_loopg [15, 16] n (fun g s15 s16 wx => ∃ k : Nat, k ≤ n ∧ g = n - k ∧ s15 = .bool (tw (hv.take k) x.sq) ∧ s16 = .int .i64 k ∧ Hid (Below W1.heap.size W1 wx))
          case atStart => exact ⟨0, by omega, rfl, rfl, rfl, Below.refl _ _⟩
          case round =>
            obtain ⟨k, hk, rfl, rfl, rfl, HBx⟩ := hrel
            obtain ⟨wx, hwx⟩ : ∃ wx, wx = wr := ⟨_, rfl⟩
            rw [← hwx] at HBx ⊢
            clear hwx x0 x1 x2 x3 x4 x5
            obtain ⟨⟨x0, x1, x2, x3, x4, x5⟩, _⟩ := Q.cell6 (hHE.out wx HBx.out)
            have lEx := hLt (hHE.out wx HBx.out)
            by_cases hkn : k < n
            · have hSx := HS1.out.keep HBx.out
              obtain ⟨gb, rfl, hgl, hgb, e0, e1, e2, e3, e4, e5⟩ := evS_at hSx.row k (by have := HNn.out.1; omega)
              have k1 : (k : Int) < (n : Int) := by omega
              have k0 : (0 : Int) ≤ (k : Int) := by omega
              have k2 : (k : Int) < 100 := by have := HNn.out.2; omega
              have HTk : Hid (tw (hv.take (k + 1)) x.sq = (tw (hv.take k) x.sq || ((Q.Qu.g hv k).sq == x.sq))) := tw_take hv x.sq k (by have := HNn.out.1; omega)
              generalize Q.Qu.g hv k = y at e0 e1 e2 e3 e4 e5 HTk
              obtain ⟨b, hb⟩ : ∃ b, b = tw (hv.take k) x.sq := ⟨_, rfl⟩
              rw [← hb] at HTk ⊢
              clear hSx hb
              cases b with
              | true =>
                go_wp2_with fail
                go_quiet (fail)
                go_wp2_with fail
                go_roundg (n - (k + 1))
                case measure => omega
                case rel => exact ⟨k + 1, by omega, rfl, by rw [HTk.out]; rfl, by go_num, Q.belDN HBx.out _⟩
              | false =>
                by_cases hq : y.sq = x.sq
                · have hq' : (y.sq == x.sq) = true := by rw [beq_iff_eq]; exact hq
                  have HQ : Hid ((y.sq == x.sq) = true) := hq'
                  go_wp2_with fail
                  go_quiet (fail)
                  go_wp2_with fail
                  go_roundg (n - (k + 1))
                  case measure => omega
                  case rel => exact ⟨k + 1, by omega, rfl, by rw [HTk.out, HQ.out]; rfl, by go_num, Q.belDN HBx.out _⟩
                · have hq' : (y.sq == x.sq) = false := by rw [beq_eq_false_iff_ne]; exact hq
                  have HQ : Hid ((y.sq == x.sq) = false) := hq'
                  clear hq
                  go_wp2_with fail
                  go_quiet (fail)
                  go_wp2_with fail
                  go_roundg (n - (k + 1))
                  case measure => omega
                  case rel => exact ⟨k + 1, by omega, rfl, by rw [HTk.out, HQ.out]; rfl, by go_num, Q.belDN HBx.out _⟩
            · obtain rfl : k = n := by omega
              have htk : hv.take k = hv := List.take_of_length_le (by have := HNn.out.1; omega)
              rw [htk]
              have HSx : Hid (LtS w B p q i a k c hv l d v pp N vq wx) := HS1.out.keep HBx.out
              have HTw : Hid (okE x → Q.hasK l x.fr x.sq = tw hv x.sq) := fun ho => by rw [ho.2.1]; exact tw_hasK HSx.out.pm (fun y hy => (HSx.out.ok y hy).1) x.sq
              have hdd : d = -1 ∨ d = 0 := by rcases HD.out with ⟨e, _⟩ | ⟨e, _⟩; exact Or.inl e; exact Or.inr e
              have HEq : Hid (E ≠ q ∧ vq.ownBlock ≠ some E) := ⟨by have := HNE.out.2.1; omega, fun e => by have := HNE.out.2.2 E e; omega⟩
              have hTk0 := takeX HSx.out.x1 (by omega) (by have := HSx.out.pm.length_eq; have := HSx.out.hi; omega) x
              by_cases ho : okE x
              · have ho' : decide (okE x) = true := decide_eq_true ho
                have HO : Hid (okE x) := ho
                by_cases ht : x.t ≤ d
                · have hr : takeR d l x = 5 := by unfold takeR; rw [if_pos ho, if_pos ht]
                  rw [hr] at hTk0
                  have HTk : Hid (Calls Tryz.prog 9 #[.pointer (some ⟨p, 0, none⟩), .agg #[.int .i64 x.t, .int .i64 x.nd, .string x.v, .int .i64 x.fr, .int .i64 x.sq, .bool x.an]] wx fun e w' => e = .returned (.int .i64 5) ∧ ∃ vq' l', Hid (X1 B p q 100 d v l' pp N vq' w') ∧ Hid (Q.Mv vq vq' wx) ∧ Hid (Q.But2 q vq.ownBlock wx w') ∧ Hid (((5 : Int) = 0 ∧ l'.Perm (x :: l)) ∨ ((5 : Int) ≠ 0 ∧ l' = l))) := hTk0
                  have ht' : decide (x.t ≤ d) = true := decide_eq_true ht
                  clear hr ho hTk0
                  go_wp2_with (first
                    | (go_at_call 9; refine HTk.out.mono ?_; rintro e w6 ⟨rfl, vq6, l6, HX6, HM6, HB6, HC6⟩; obtain ⟨⟨z0, z1, z2, z3, z4, z5⟩, _⟩ := Q.cell6 ((HB6.out.block E lEx HEq.out.1 HEq.out.2).trans (hHE.out wx HBx.out)); have lE6 := Nat.lt_of_lt_of_le lEx HB6.out.size; have HDn : Hid (∀ j, Calls Tryz.prog 8 #[.pointer (some ⟨p, 0, none⟩)] (w6.drewN j) fun e w' => e = .returned (.int .i64 d) ∧ w' = w6.drewN j) := (fun j => doneX (HX6.out.below (Q.belDN (Below.refl _ _) j)))))
                  go_quiet (first | (go_at_call 8; exact Calls.quiet_of_same (HDn.out _)))
                  go_wp2_with fail
                  have hc6 : l6 = l := by rcases HC6.out with ⟨e, _⟩ | ⟨_, e⟩; exact absurd e (by decide); exact e
                  subst hc6
                  go_roundg (100 - (i + 1))
                  case measure => omega
                  case rel => exact ⟨i + 1, a, k, c, by omega, rfl, rfl, by go_num, hv, l6, d, v, pp, N, vq6, ((HSx.out.moved HX6.out HM6.out HB6.out HSx.out.pm).up (Nat.le_succ i)).keep (Q.belDN (Below.refl _ _) _), HD.out⟩
                · have ht' : decide (x.t ≤ d) = false := decide_eq_false ht
                  have t0 : ¬ x.t < 0 := by omega
                  have t0' : decide (x.t < 0) = false := decide_eq_false t0
                  by_cases hb : x.an = true ∨ tw hv x.sq = true
                  · have hr : takeR d l x = 1 := by unfold takeR; rw [if_pos ho, if_neg ht, HTw.out ho, if_pos hb]
                    rw [hr] at hTk0
                    have HTk : Hid (Calls Tryz.prog 9 #[.pointer (some ⟨p, 0, none⟩), .agg #[.int .i64 x.t, .int .i64 x.nd, .string x.v, .int .i64 x.fr, .int .i64 x.sq, .bool x.an]] wx fun e w' => e = .returned (.int .i64 1) ∧ ∃ vq' l', Hid (X1 B p q 100 d v l' pp N vq' w') ∧ Hid (Q.Mv vq vq' wx) ∧ Hid (Q.But2 q vq.ownBlock wx w') ∧ Hid (((1 : Int) = 0 ∧ l'.Perm (x :: l)) ∨ ((1 : Int) ≠ 0 ∧ l' = l))) := hTk0
                    clear hr ho hTk0
                    by_cases ha : x.an = true
                    · have HA : Hid (x.an = true) := ha
                      clear hb ha
                      go_wp2_with (first
                        | (go_at_call 9; refine HTk.out.mono ?_; rintro e w6 ⟨rfl, vq6, l6, HX6, HM6, HB6, HC6⟩; obtain ⟨⟨z0, z1, z2, z3, z4, z5⟩, _⟩ := Q.cell6 ((HB6.out.block E lEx HEq.out.1 HEq.out.2).trans (hHE.out wx HBx.out)); have lE6 := Nat.lt_of_lt_of_le lEx HB6.out.size; have HDn : Hid (∀ j, Calls Tryz.prog 8 #[.pointer (some ⟨p, 0, none⟩)] (w6.drewN j) fun e w' => e = .returned (.int .i64 d) ∧ w' = w6.drewN j) := (fun j => doneX (HX6.out.below (Q.belDN (Below.refl _ _) j)))))
                      have ha := HA.out
                      go_quiet (first | (go_at_call 8; exact Calls.quiet_of_same (HDn.out _)))
                      go_wp2_with fail
                      have hc6 : l6 = l := by rcases HC6.out with ⟨e, _⟩ | ⟨_, e⟩; exact absurd e (by decide); exact e
                      subst hc6
                      go_roundg (100 - (i + 1))
                      case measure => omega
                      case rel => exact ⟨i + 1, a, k, c, by omega, rfl, rfl, by go_num, hv, l6, d, v, pp, N, vq6, ((HSx.out.moved HX6.out HM6.out HB6.out HSx.out.pm).up (Nat.le_succ i)).keep (Q.belDN (Below.refl _ _) _), HD.out⟩
                    · have ha' : x.an = false := by simpa using ha
                      have htw : tw hv x.sq = true := hb.resolve_left ha
                      have HA : Hid (x.an = false) := ha'
                      clear hb ha ha'
                      go_wp2_with (first
                        | (go_at_call 9; refine HTk.out.mono ?_; rintro e w6 ⟨rfl, vq6, l6, HX6, HM6, HB6, HC6⟩; obtain ⟨⟨z0, z1, z2, z3, z4, z5⟩, _⟩ := Q.cell6 ((HB6.out.block E lEx HEq.out.1 HEq.out.2).trans (hHE.out wx HBx.out)); have lE6 := Nat.lt_of_lt_of_le lEx HB6.out.size; have HDn : Hid (∀ j, Calls Tryz.prog 8 #[.pointer (some ⟨p, 0, none⟩)] (w6.drewN j) fun e w' => e = .returned (.int .i64 d) ∧ w' = w6.drewN j) := (fun j => doneX (HX6.out.below (Q.belDN (Below.refl _ _) j)))))
                      have ha := HA.out
                      go_quiet (first | (go_at_call 8; exact Calls.quiet_of_same (HDn.out _)))
                      go_wp2_with fail
                      have hc6 : l6 = l := by rcases HC6.out with ⟨e, _⟩ | ⟨_, e⟩; exact absurd e (by decide); exact e
                      subst hc6
                      go_roundg (100 - (i + 1))
                      case measure => omega
                      case rel => exact ⟨i + 1, a, k, c, by omega, rfl, rfl, by go_num, hv, l6, d, v, pp, N, vq6, ((HSx.out.moved HX6.out HM6.out HB6.out HSx.out.pm).up (Nat.le_succ i)).keep (Q.belDN (Below.refl _ _) _), HD.out⟩
                  · have ha' : x.an = false := by simpa using fun h => hb (Or.inl h)
                    have htw : tw hv x.sq = false := by simpa using fun h => hb (Or.inr h)
                    have HW : Hid (tw hv x.sq = false ∧ x.an = false) := ⟨htw, ha'⟩
                    have HA : Hid (x.an = false) := ha'
                    have hk' := HTw.out ho
                    by_cases hm : 4611686018427387903 < x.t
                    · have hr : takeR d l x = 140 := by unfold takeR; rw [if_pos ho, if_neg ht, hk', if_neg hb, if_pos hm]
                      rw [hr] at hTk0
                      have HTk : Hid (Calls Tryz.prog 9 #[.pointer (some ⟨p, 0, none⟩), .agg #[.int .i64 x.t, .int .i64 x.nd, .string x.v, .int .i64 x.fr, .int .i64 x.sq, .bool x.an]] wx fun e w' => e = .returned (.int .i64 140) ∧ ∃ vq' l', Hid (X1 B p q 100 d v l' pp N vq' w') ∧ Hid (Q.Mv vq vq' wx) ∧ Hid (Q.But2 q vq.ownBlock wx w') ∧ Hid (((140 : Int) = 0 ∧ l'.Perm (x :: l)) ∨ ((140 : Int) ≠ 0 ∧ l' = l))) := hTk0
                      have hm' : decide (4611686018427387903 < x.t) = true := decide_eq_true hm
                      clear hb hr ho hTk0 hk' ha'
                      go_wp2_with (first
                        | (go_at_call 9; refine HTk.out.mono ?_; rintro e w6 ⟨rfl, vq6, l6, HX6, HM6, HB6, HC6⟩; obtain ⟨⟨z0, z1, z2, z3, z4, z5⟩, _⟩ := Q.cell6 ((HB6.out.block E lEx HEq.out.1 HEq.out.2).trans (hHE.out wx HBx.out)); have lE6 := Nat.lt_of_lt_of_le lEx HB6.out.size; have HDn : Hid (∀ j, Calls Tryz.prog 8 #[.pointer (some ⟨p, 0, none⟩)] (w6.drewN j) fun e w' => e = .returned (.int .i64 d) ∧ w' = w6.drewN j) := (fun j => doneX (HX6.out.below (Q.belDN (Below.refl _ _) j)))))
                      have ha := HA.out
                      go_quiet (first | (go_at_call 8; exact Calls.quiet_of_same (HDn.out _)))
                      go_wp2_with fail
                      have hc6 : l6 = l := by rcases HC6.out with ⟨e, _⟩ | ⟨_, e⟩; exact absurd e (by decide); exact e
                      subst hc6
                      go_roundg (100 - (i + 1))
                      case measure => omega
                      case rel => exact ⟨i + 1, a, k, c, by omega, rfl, rfl, by go_num, hv, l6, d, v, pp, N, vq6, ((HSx.out.moved HX6.out HM6.out HB6.out HSx.out.pm).up (Nat.le_succ i)).keep (Q.belDN (Below.refl _ _) _), HD.out⟩
                    · have hr : takeR d l x = 0 := by unfold takeR; rw [if_pos ho, if_neg ht, hk', if_neg hb, if_neg hm]
                      rw [hr] at hTk0
                      have HTk : Hid (Calls Tryz.prog 9 #[.pointer (some ⟨p, 0, none⟩), .agg #[.int .i64 x.t, .int .i64 x.nd, .string x.v, .int .i64 x.fr, .int .i64 x.sq, .bool x.an]] wx fun e w' => e = .returned (.int .i64 0) ∧ ∃ vq' l', Hid (X1 B p q 100 d v l' pp N vq' w') ∧ Hid (Q.Mv vq vq' wx) ∧ Hid (Q.But2 q vq.ownBlock wx w') ∧ Hid (((0 : Int) = 0 ∧ l'.Perm (x :: l)) ∨ ((0 : Int) ≠ 0 ∧ l' = l))) := hTk0
                      have hm' : decide (4611686018427387903 < x.t) = false := decide_eq_false hm
                      have HT : Hid (d < x.t) := (by omega : d < x.t)
                      clear hb hr ho hTk0 hk' ha'
                      go_wp2_with (first
                        | (go_at_call 9; refine HTk.out.mono ?_; rintro e w6 ⟨rfl, vq6, l6, HX6, HM6, HB6, HC6⟩; obtain ⟨⟨z0, z1, z2, z3, z4, z5⟩, _⟩ := Q.cell6 ((HB6.out.block E lEx HEq.out.1 HEq.out.2).trans (hHE.out wx HBx.out)); have lE6 := Nat.lt_of_lt_of_le lEx HB6.out.size; have HDn : Hid (∀ j, Calls Tryz.prog 8 #[.pointer (some ⟨p, 0, none⟩)] (w6.drewN j) fun e w' => e = .returned (.int .i64 d) ∧ w' = w6.drewN j) := (fun j => doneX (HX6.out.below (Q.belDN (Below.refl _ _) j)))))
                      have ha := HA.out
                      go_quiet (first | (go_at_call 8; exact Calls.quiet_of_same (HDn.out _)))
                      rename_i nq
                      obtain ⟨jj, hjj⟩ := Q.infoEv
                      have HJ : Hid (Tryz.prog.info? 39 = some jj ∧ jj.zero = some (Q.evG Q.Qu.ev0) ∧ jj.size = 6 ∧ jj.bytes = 56) := hjj
                      clear hjj
                      obtain ⟨w7, hw7⟩ : ∃ w7, w7 = w6.drewN nq := ⟨_, rfl⟩
                      have HX7 : Hid (X1 B p q 100 d v l6 pp N vq6 w7) := by rw [hw7]; exact HX6.out.below (Q.belDN (Below.refl _ _) nq)
                      have HB7 : Hid (Q.But2 q vq.ownBlock wx w7) := by rw [hw7]; exact HB6.out.below (Q.belDN (Below.refl _ _) nq)
                      have HR7 : Hid (w7.ownsRow N 39 6 (.slice a k c) k (Q.evs hv)) := by have h := HSx.out.rowm HB7.out; unfold Q.EvS at h; rw [← HSx.out.hn] at h; exact h
                      have HN7 : Hid (N ≤ w7.heap.size) := Nat.le_trans HSx.out.hN HB7.out.size
                      have f0 : w7.cell? ⟨E, 0, none⟩ = some (.int .i64 x.t) := by rw [hw7]; exact z0
                      have f1 : w7.cell? ⟨E, 1, none⟩ = some (.int .i64 x.nd) := by rw [hw7]; exact z1
                      have f2 : w7.cell? ⟨E, 2, none⟩ = some (.string x.v) := by rw [hw7]; exact z2
                      have f3 : w7.cell? ⟨E, 3, none⟩ = some (.int .i64 x.fr) := by rw [hw7]; exact z3
                      have f4 : w7.cell? ⟨E, 4, none⟩ = some (.int .i64 x.sq) := by rw [hw7]; exact z4
                      have f5 : w7.cell? ⟨E, 5, none⟩ = some (.bool false) := by rw [hw7, ← ha]; exact z5
                      have lE7 : E < w7.heap.size := by rw [hw7]; exact lE6
                      rw [← hw7]
                      clear hw7 z0 z1 z2 z3 z4 z5 ha
                      go_wp2_with (first
                        | (at_builtin; refine wpList_append_own_at _ rfl _ _ 22 rfl N 39 jj _ 6 56 Tryz.underlying22 HJ.out.1 HJ.out.2.1 HJ.out.2.2.1 HJ.out.2.2.2 rfl (by decide) _ k (Q.evs hv) rfl (HR7.out.alloc _) ⟨w7.heap.size, 0, none⟩ 1 1 [.int .i64 x.t, .int .i64 x.nd, .string x.v, .int .i64 x.fr, .int .i64 x.sq, .bool false] rfl rfl (fun j u hj => Q.new6 _ ⟨x.t, x.nd, x.v, x.fr, x.sq, false⟩ 39 _ rfl j u hj) (Q.one6 ⟨x.t, x.nd, x.v, x.fr, x.sq, false⟩) (by have := HNn.out.2; unfold maxLen; omega) (by have := HNn.out.2; omega) (by have := HN7.out; simp; omega) ?_; intro v9 w9 hown9 hgrow9 hnil9 hloc9; obtain ⟨g9, c9, rfl⟩ := own_slice1 hown9; have HO9 : Hid (w9.ownsRow N 39 6 (.slice (some ⟨g9, 0, none⟩) (k + 1) c9) (k + 1) (Q.evs hv ++ Q.evC ⟨x.t, x.nd, x.v, x.fr, x.sq, false⟩)) := hown9; have HG9 : Hid ((w7.alloc (Q.evB ⟨x.t, x.nd, x.v, x.fr, x.sq, false⟩)).grownBy w9 (Value.slice a k c).ownBlock) := hgrow9; have HL8 : ((Value.slice (some ⟨g9, 0, none⟩) (k + 1) c9).ownBlock = (Value.slice a k c).ownBlock ∨ (Value.slice (some ⟨g9, 0, none⟩) (k + 1) c9).ownBlock = some (w7.heap.size + 1)) := (by simpa [Act.eval] using hloc9); have HL9 : Hid ((Value.slice (some ⟨g9, 0, none⟩) (k + 1) c9).ownBlock = (Value.slice a k c).ownBlock ∨ (Value.slice (some ⟨g9, 0, none⟩) (k + 1) c9).ownBlock = some (w7.heap.size + 1)) := HL8; clear HL8 hown9 hgrow9 hnil9 hloc9))
                      go_roundg (100 - (i + 1))
                      case measure => omega
                      case rel =>
                        have hx : (⟨x.t, x.nd, x.v, x.fr, x.sq, false⟩ : Q.Qu.Ev) = x := by rw [← HA.out]
                        have h9 := HO9.out
                        have hg := HG9.out
                        rw [hx] at h9 hg
                        have hp6 : l6.Perm (x :: l) := by rcases HC6.out with ⟨_, e⟩ | ⟨e, _⟩; exact e; exact absurd rfl e
                        exact ⟨i + 1, some ⟨g9, 0, none⟩, k + 1, c9, by omega, rfl, rfl, by go_num, hv ++ [x], l6, d, v, pp, N, vq6, HSx.out.push HX7.out HM6.out HB7.out hp6 HO.out HT.out HW.out.1 h9 hg HL9.out, HD.out⟩
              · have ho' : decide (okE x) = false := decide_eq_false ho
                have hr : takeR d l x = 1 := by unfold takeR; rw [if_neg ho]
                rw [hr] at hTk0
                have HTk : Hid (Calls Tryz.prog 9 #[.pointer (some ⟨p, 0, none⟩), .agg #[.int .i64 x.t, .int .i64 x.nd, .string x.v, .int .i64 x.fr, .int .i64 x.sq, .bool x.an]] wx fun e w' => e = .returned (.int .i64 1) ∧ ∃ vq' l', Hid (X1 B p q 100 d v l' pp N vq' w') ∧ Hid (Q.Mv vq vq' wx) ∧ Hid (Q.But2 q vq.ownBlock wx w') ∧ Hid (((1 : Int) = 0 ∧ l'.Perm (x :: l)) ∨ ((1 : Int) ≠ 0 ∧ l' = l))) := hTk0
                clear hr ho hTk0
                go_wp2_with (first
                  | (go_at_call 9; refine HTk.out.mono ?_; rintro e w6 ⟨rfl, vq6, l6, HX6, HM6, HB6, HC6⟩; obtain ⟨⟨z0, z1, z2, z3, z4, z5⟩, _⟩ := Q.cell6 ((HB6.out.block E lEx HEq.out.1 HEq.out.2).trans (hHE.out wx HBx.out)); have lE6 := Nat.lt_of_lt_of_le lEx HB6.out.size; have HDn : Hid (∀ j, Calls Tryz.prog 8 #[.pointer (some ⟨p, 0, none⟩)] (w6.drewN j) fun e w' => e = .returned (.int .i64 d) ∧ w' = w6.drewN j) := (fun j => doneX (HX6.out.below (Q.belDN (Below.refl _ _) j)))))
                have hc6 : l6 = l := by rcases HC6.out with ⟨e, _⟩ | ⟨_, e⟩; exact absurd e (by decide); exact e
                subst hc6
                go_roundg (100 - (i + 1))
                case measure => omega
                case rel => exact ⟨i + 1, a, k, c, by omega, rfl, rfl, by go_num, hv, l6, d, v, pp, N, vq6, ((HSx.out.moved HX6.out HM6.out HB6.out HSx.out.pm).up (Nat.le_succ i)).keep (Below.refl _ _), HD.out⟩
        
    · obtain ⟨hv, l, d, v, pp, N, vq, hs, hp⟩ := HL.out
      have HS : Hid (LtS w B p q i a n c hv l d v pp N vq wr) := hs
      have HD : Hid (d = -1 ∨ d = 0) := by rcases hp with ⟨e, _⟩ | ⟨e, _⟩; exact Or.inl e; exact Or.inr e
      have HNn : Hid (n = hv.length ∧ n ≤ 100) := ⟨hs.hn, by have := hs.hn; have := hs.hi; omega⟩
      clear hs hp HL
      obtain ⟨wy, hwy⟩ : ∃ wy, wy = wr := ⟨_, rfl⟩
      rw [← hwy] at HS ⊢
      clear hwy
      have hil : ¬ (i : Int) < (ls.length : Int) ∨ ((i : Int) < (ls.length : Int) ∧ ¬ (i : Int) < 100) := by omega
      clear hlt
      rcases hil with hil | ⟨hil, hi1⟩
      all_goals (
        go_wp2_with fail
        go_loopg [18] n (fun g s18 wx => ∃ j : Nat, j ≤ n ∧ g = n - j ∧ s18 = .int .i64 j ∧ Hid (∃ l' vq', CnS w B p q a n c hv l' d v pp N vq' wx ∧ l'.Perm (hv.drop j)))
        case atStart => exact ⟨0, by omega, rfl, rfl, l, vq, ⟨HS.out.x1, HS.out.row, HS.out.sep, HS.out.bw, HS.out.lo⟩, HS.out.pm⟩
        case round =>
          obtain ⟨j, hj, rfl, rfl, HC⟩ := hrel
          obtain ⟨wx, hwx⟩ : ∃ wx, wx = wr := ⟨_, rfl⟩
          rw [← hwx] at HC ⊢
          clear hwx
          obtain ⟨l', vq', hc, hpm⟩ := HC.out
          have HCx : Hid (CnS w B p q a n c hv l' d v pp N vq' wx) := hc
          have HPx : Hid (l'.Perm (hv.drop j)) := hpm
          clear HC
          by_cases hjn : j < n
          · have HLl : Hid (l'.length ≤ 100) := by have h1 := hpm.length_eq; rw [List.length_drop] at h1; have := HNn.out; show _ ≤ _; omega
            have HJ : Hid (j < hv.length) := by have := HNn.out.1; show _ < _; omega
            obtain ⟨gb, rfl, hgl, hgb, e0, e1, e2, e3, e4, e5⟩ := evS_at hc.row j HJ.out
            have HOk : Hid (∀ x ∈ hv, okE x) := fun x hx => (HS.out.ok x hx).1
            have HHk : Hid (Q.hasK l' 0 (Q.Qu.g hv j).sq = true) := dr_has hpm HOk.out HJ.out
            obtain ⟨s, hs⟩ : ∃ s, s = (Q.Qu.g hv j).sq := ⟨_, rfl⟩
            have HSq : Hid (s = (Q.Qu.g hv j).sq) := hs
            rw [← hs] at e4 HHk
            have k1 : (j : Int) < (n : Int) := by omega
            have k0 : (0 : Int) ≤ (j : Int) := by omega
            have k2 : (j : Int) < 100 := by have := HNn.out.2; omega
            clear hc hpm hs e0 e1 e2 e3 e5
            have HC1 : Hid (Calls Tryz.prog 10 #[.pointer (some ⟨p, 0, none⟩), .int .i64 0, .int .i64 s] wx fun e w' => e = .returned (.bool true) ∧ Hid (∃ vq5 l5 x5, X1 B p q 100 d v l5 pp N vq5 w' ∧ l'.Perm (x5 :: l5) ∧ Q.isK 0 s x5 ∧ Q.Mv vq' vq5 wx ∧ Q.But2 q vq'.ownBlock wx w')) := cancelX_yes HCx.out.x1 (by have := HLl.out; omega) s HHk.out
            go_wp2_with (first
              | (go_at_call 10; refine (cancelX_own HC6.out.x1 s).mono ?_; rintro e w7 ⟨rfl, hw⟩; rw [hw]; clear hw)
              | (go_at_call 10; refine (cancelX_no HC5.out.x1 HL5.out s HK5.out).mono ?_; rintro e w6 ⟨rfl, HB6⟩; have HC6 : Hid (CnS w B p q (some ⟨gb, 0, none⟩) n c hv l5 d v pp N vq5 w6) := HC5.out.below HB6.out; obtain ⟨gb6, hgg, hgl6, hgb6, c0, c1, c2, c3, c4, c5⟩ := evS_at HC6.out.row j HJ.out; injection hgg with hgg; injection hgg with hgg; subst hgg; rw [← HSq.out] at c4; clear c0 c1 c2 c3 c5)
              | (go_at_call 10; refine HC1.out.mono ?_; rintro e w5 ⟨rfl, HR⟩; obtain ⟨vq5, l5, x5, hx5, hp5, hk5, hm5, hb5⟩ := HR.out; have HC5 : Hid (CnS w B p q (some ⟨gb, 0, none⟩) n c hv l5 d v pp N vq5 w5) := HCx.out.moved hx5 hm5 hb5; have hnx := dr_next HPx.out hp5 (by rw [← HSq.out]; exact hk5) HS.out.ds HJ.out; have HP5 : Hid (l5.Perm (hv.drop (j + 1))) := hnx.1; have HK5 : Hid (Q.hasK l5 0 s = false) := (by rw [HSq.out]; exact hnx.2); have HL5 : Hid (l5.length ≤ 4096) := (by have h1 := hp5.length_eq; have := HLl.out; simp at h1; show _ ≤ _; omega); clear HR hx5 hp5 hk5 hm5 hb5 hnx; obtain ⟨gb5, hgg, hgl5, hgb5, d0, d1, d2, d3, d4, d5⟩ := evS_at HC5.out.row j HJ.out; injection hgg with hgg; injection hgg with hgg; subst hgg; rw [← HSq.out] at d4; clear d0 d1 d2 d3 d5))
            go_roundg (n - (j + 1))
            case measure => omega
            case rel => exact ⟨j + 1, by omega, rfl, by go_num, l5, vq5, HC6.out, HP5.out⟩
          · obtain rfl : j = n := by omega
            have hl0 : l' = [] := by
              have h1 := HPx.out.length_eq
              rw [List.length_drop] at h1
              exact List.eq_nil_of_length_eq_zero (by have := HNn.out.1; omega)
            subst hl0
            clear hc hpm
            rcases HD.out with e | e
            all_goals (
              subst e
              go_wp2_with (first
                | (go_at_call 12; refine (HAw.out _).mono ?_; rintro e wA ⟨rfl, hbA⟩)
                | (go_at_call 11; refine (ends_c B p q 100 _ v pp N vq' wx HCx.out.x1 (by omega) (by omega) (by omega)).mono ?_; rintro e w8 ⟨rfl, HX8, HB8⟩; obtain ⟨v8, pp8, N8, vq8, hx8⟩ := HX8.out; have HY8 : Hid (X1 B p q 100 0 v8 [] pp8 N8 vq8 w8) := hx8; clear hx8)
                | (go_at_call 8; refine (doneX HY8.out).mono ?_; rintro e w9 ⟨rfl, hw⟩; rw [hw]; clear hw)
                | (go_at_call 8; refine (doneX HCx.out.x1).mono ?_; rintro e w9 ⟨rfl, hw⟩; rw [hw]; clear hw))
              go_ret
              exact ⟨rfl, bel (belT HCx.out.bw (belDn HB8.out HCx.out.lo)) hbA⟩))
end Go.Proofs.YtokepgnnepjiaaaGreat
