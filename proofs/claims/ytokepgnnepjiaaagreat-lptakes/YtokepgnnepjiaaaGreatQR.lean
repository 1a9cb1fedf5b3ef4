/- Process 1, all but its queue's row below a bound: Take, Cancel, Step, Done, all that may come. -/
import Derived.Test.YtokepgnnepjiaaaGreatQP
import Derived.Test.YtokepgnnepjiaaaGreatGQb
namespace Go.Proofs.YtokepgnnepjiaaaGreat
set_option maxRecDepth 100000
open Go.RowKit Lg Nl Go.Maps
set_option linter.unusedVariables false
set_option linter.unusedSimpArgs false

def X1 (B p q : Nat) (hz d : Int) (v : ByteArray) (l : List Q.Qu.Ev) (pp : Option Addr) (N : Nat) (vq : Value) (W : World) : Prop := ∃ F bN cN bE cE bP bT cT bI ia ic bV cV, U1 B p q hz d v l pp F bN cN bE cE bP bT cT bI ia ic bV cV vq W ∧ ∀ b, (b = p ∨ b = q ∨ b = F ∨ b = bN ∨ b = bE ∨ b = bP ∨ b = bT ∨ b = bI ∨ b = bV) → b < N
theorem X1.keep {B p q : Nat} {hz d : Int} {v : ByteArray} {l : List Q.Qu.Ev} {pp : Option Addr} {N : Nat} {vq : Value} {W W' : World} (h : X1 B p q hz d v l pp N vq W) (hs : W.heap.size ≤ W'.heap.size) (hk : ∀ k, k < N → W'.heap[k]? = W.heap[k]?) (hv : ∀ k, vq.ownBlock = some k → W'.heap[k]? = W.heap[k]?) : X1 B p q hz d v l pp N vq W' := by
  obtain ⟨F, bN, cN, bE, cE, bP, bT, cT, bI, ia, ic, bV, cV, h, hN⟩ := h
  exact ⟨F, bN, cN, bE, cE, bP, bT, cT, bI, ia, ic, bV, cV, ⟨(hk p (hN p (by simp))).trans h.pb, h.fx.mv fun b i u hx hu => (cellE (hk b (hN b (by rcases hx with e | e | e | e | e | e <;> simp [e])))).trans hu, (cellE (hk bV (hN bV (by simp)))).trans h.vv, Qh_keep h.qh (hk q (hN q (by simp))) hv, Nat.le_trans h.hB hs, h.gp, h.sp, h.sv, h.vp, h.sf, h.lo⟩, hN⟩
theorem X1.below {B p q : Nat} {hz d : Int} {v : ByteArray} {l : List Q.Qu.Ev} {pp : Option Addr} {N : Nat} {vq : Value} {W W' : World} (h : X1 B p q hz d v l pp N vq W) (hb : Below W.heap.size W W') : X1 B p q hz d v l pp N vq W' := by
  obtain ⟨F, bN, cN, bE, cE, bP, bT, cT, bI, ia, ic, bV, cV, h, hN⟩ := h
  exact ⟨F, bN, cN, bE, cE, bP, bT, cT, bI, ia, ic, bV, cV, h.below hb, hN⟩
theorem X1.qh {B p q : Nat} {hz d : Int} {v : ByteArray} {l : List Q.Qu.Ev} {pp : Option Addr} {N : Nat} {vq : Value} {W : World} (h : X1 B p q hz d v l pp N vq W) : Q.Qh B q 4096 W vq l := by
  obtain ⟨F, bN, cN, bE, cE, bP, bT, cT, bI, ia, ic, bV, cV, h, hN⟩ := h
  exact h.qh
theorem X1.lt {B p q : Nat} {hz d : Int} {v : ByteArray} {l : List Q.Qu.Ev} {pp : Option Addr} {N : Nat} {vq : Value} {W : World} (h : X1 B p q hz d v l pp N vq W) : p < N ∧ q < N ∧ B ≤ p ∧ B ≤ q ∧ ∀ k, vq.ownBlock = some k → B ≤ k ∧ k < W.heap.size := by
  obtain ⟨F, bN, cN, bE, cE, bP, bT, cT, bI, ia, ic, bV, cV, h, hN⟩ := h
  exact ⟨hN p (by simp), hN q (by simp), h.gp, h.qh.b.ge, World.ownsRow.lt h.qh.b.row⟩
theorem U1E.x1 {B p q : Nat} {hz d : Int} {v : ByteArray} {l : List Q.Qu.Ev} {pp : Option Addr} {S : Nat} {W : World} (h : U1E B p q hz d v l pp S W) : ∃ vq, X1 B p q hz d v l pp W.heap.size vq W := by
  obtain ⟨F, bN, cN, bE, cE, bP, bT, cT, bI, ia, ic, bV, cV, vq, h, _⟩ := h
  refine ⟨vq, F, bN, cN, bE, cE, bP, bT, cT, bI, ia, ic, bV, cV, h, fun b hb => ?_⟩
  rcases hb with rfl | rfl | hb
  · exact hLt h.pb
  · exact Q.hLt h.qh.b.blk
  · rcases hb with e | e | e | e | e | e | e
    iterate 6 exact h.lts b (by simp [e])
    rw [e]; exact World.block_lt_of_cell? W ⟨bV, 0, none⟩ h.vv
theorem doneX {B p q : Nat} {hz d : Int} {v : ByteArray} {l : List Q.Qu.Ev} {pp : Option Addr} {N : Nat} {vq : Value} {w : World} (h : X1 B p q hz d v l pp N vq w) :
    Calls Tryz.prog 8 #[.pointer (some ⟨p, 0, none⟩)] w fun e w' => e = .returned (.int .i64 d) ∧ w' = w := by
  obtain ⟨F, bN, cN, bE, cE, bP, bT, cT, bI, ia, ic, bV, cV, h, hN⟩ := h
  exact pdone_c p F q d 0 _ _ pp w h.pb
/-- what Take tells -/
def takeR (d : Int) (l : List Q.Qu.Ev) (x : Q.Qu.Ev) : Int := if okE x then (if x.t ≤ d then 5 else if x.an = true ∨ Q.hasK l x.fr x.sq = true then 1 else if 4611686018427387903 < x.t then 140 else 0) else 1
theorem But2.ofB {q : Nat} {U : Option Nat} {w w' : World} (h : Below w.heap.size w w') : Q.But2 q U w w' := Q.But2.bel h
theorem takeX {B p q : Nat} {hz d : Int} {v : ByteArray} {l : List Q.Qu.Ev} {pp : Option Addr} {N : Nat} {vq : Value} {w : World} (h : X1 B p q hz d v l pp N vq w) (hd : -1 ≤ d) (hl : l.length < 4096) (x : Q.Qu.Ev) :
    Calls Tryz.prog 9 #[.pointer (some ⟨p, 0, none⟩), .agg #[.int .i64 x.t, .int .i64 x.nd, .string x.v, .int .i64 x.fr, .int .i64 x.sq, .bool x.an]] w fun e w' => e = .returned (.int .i64 (takeR d l x)) ∧ ∃ vq' l', Hid (X1 B p q hz d v l' pp N vq' w') ∧ Hid (Q.Mv vq vq' w) ∧ Hid (Q.But2 q vq.ownBlock w w') ∧ Hid ((takeR d l x = 0 ∧ l'.Perm (x :: l)) ∨ (takeR d l x ≠ 0 ∧ l' = l)) := by
  obtain ⟨F, bN, cN, bE, cE, bP, bT, cT, bI, ia, ic, bV, cV, h, hN⟩ := h
  have bel1 : ∀ (r : Int) (e : Ending) (w' : World), takeR d l x = r → r ≠ 0 → (e = .returned (.int .i64 r) ∧ Below w.heap.size w w') → (e = .returned (.int .i64 (takeR d l x)) ∧ ∃ vq' l', Hid (X1 B p q hz d v l' pp N vq' w') ∧ Hid (Q.Mv vq vq' w) ∧ Hid (Q.But2 q vq.ownBlock w w') ∧ Hid ((takeR d l x = 0 ∧ l'.Perm (x :: l)) ∨ (takeR d l x ≠ 0 ∧ l' = l))) := by
    rintro r e w' hr hr0 ⟨rfl, hb⟩
    refine ⟨by rw [hr], vq, l, ⟨F, bN, cN, bE, cE, bP, bT, cT, bI, ia, ic, bV, cV, h.below hb, hN⟩, fun k e => Or.inl e, Q.But2.bel hb, Or.inr ⟨by rw [hr]; exact hr0, rfl⟩⟩
  by_cases ho : okE x
  · have ho' := ho
    obtain ⟨h1, h2, h3, h4⟩ := ho'
    have hx : x = ⟨x.t, 1, x.v, 0, x.sq, x.an⟩ := by obtain ⟨a1, a2, a3, a4, a5, a6⟩ := x; simp only at h1 h2; rw [h1, h2]
    have hval : (Value.agg #[.int .i64 x.t, .int .i64 x.nd, .string x.v, .int .i64 x.fr, .int .i64 x.sq, .bool x.an]) = .agg #[.int .i64 x.t, .int .i64 1, .string x.v, .int .i64 0, .int .i64 x.sq, .bool x.an] := by rw [h1, h2]
    rw [hval]
    by_cases ht : x.t ≤ d
    · refine (take1_late B p q hz d v l pp F bN cN bE cE bP bT cT bI ia ic bV cV vq x.t x.sq x.v x.an w h h3 h4 ht).mono fun e w' k => bel1 5 e w' ?_ (by decide) k
      unfold takeR; rw [if_pos ho, if_pos ht]
    · have hput : ∀ (r : Int), takeR d l x = r → r ≠ 0 → (∀ X, Below w.heap.size w X → Calls Tryz.prog 25 #[.pointer (some ⟨q, 0, none⟩), .agg #[.int .i64 x.t, .int .i64 x.nd, .string x.v, .int .i64 x.fr, .int .i64 x.sq, .bool x.an]] X fun e w' => e = .returned (.int .i64 r) ∧ Below X.heap.size X w') → Calls Tryz.prog 9 #[.pointer (some ⟨p, 0, none⟩), .agg #[.int .i64 x.t, .int .i64 1, .string x.v, .int .i64 0, .int .i64 x.sq, .bool x.an]] w fun e w' => e = .returned (.int .i64 (takeR d l x)) ∧ ∃ vq' l', Hid (X1 B p q hz d v l' pp N vq' w') ∧ Hid (Q.Mv vq vq' w) ∧ Hid (Q.But2 q vq.ownBlock w w') ∧ Hid ((takeR d l x = 0 ∧ l'.Perm (x :: l)) ∨ (takeR d l x ≠ 0 ∧ l' = l)) := fun r hr hr0 hp => by
        refine (take1_g B p q hz d v l pp F bN cN bE cE bP bT cT bI ia ic bV cV vq x.t x.sq x.v x.an r (fun w' => U1 B p q hz d v l pp F bN cN bE cE bP bT cT bI ia ic bV cV vq w') w h h3 h4 (by omega) fun X hX => ?_).mono ?_
        · rw [← hval]
          refine (hp X hX).mono ?_
          rintro e w' ⟨rfl, hb⟩
          exact ⟨rfl, (h.below hX).below hb, Q.But2.bel hb⟩
        · rintro e w' ⟨rfl, hR, hb⟩
          exact ⟨by rw [hr], vq, l, ⟨F, bN, cN, bE, cE, bP, bT, cT, bI, ia, ic, bV, cV, hR.out, hN⟩, fun k e => Or.inl e, hb, Or.inr ⟨by rw [hr]; exact hr0, rfl⟩⟩
      by_cases ha : x.an = true
      · exact hput 1 (by unfold takeR; rw [if_pos ho, if_neg ht, if_pos (Or.inl ha)]) (by decide) fun X hX => Q.put_anti B q 4096 vq l x X (h.below hX).qh (by omega) ha
      · have ha' : x.an = false := by simpa using ha
        by_cases hk : Q.hasK l x.fr x.sq = true
        · exact hput 1 (by unfold takeR; rw [if_pos ho, if_neg ht, if_pos (Or.inr hk)]) (by decide) fun X hX => Q.put_has B q 4096 vq l x X (h.below hX).qh (by omega) ha' (by omega) hk
        · have hk' : Q.hasK l x.fr x.sq = false := by simpa using hk
          have hno : ¬ (x.an = true ∨ Q.hasK l x.fr x.sq = true) := fun h => h.elim ha hk
          by_cases hm : 4611686018427387903 < x.t
          · exact hput 140 (by unfold takeR; rw [if_pos ho, if_neg ht, if_neg hno, if_pos hm]) (by decide) fun X hX => Q.put_late B q 4096 vq l x X (h.below hX).qh (by omega) ha' (by omega) hk' hm
          · have hr : takeR d l x = 0 := by unfold takeR; rw [if_pos ho, if_neg ht, if_neg hno, if_neg hm]
            refine (take1_g B p q hz d v l pp F bN cN bE cE bP bT cT bI ia ic bV cV vq x.t x.sq x.v x.an 0 (fun w' => ∃ vq' l', U1 B p q hz d v l' pp F bN cN bE cE bP bT cT bI ia ic bV cV vq' w' ∧ l'.Perm (x :: l) ∧ Q.Mv vq vq' w) w h h3 h4 (by omega) fun X hX => ?_).mono ?_
            · rw [← hval]
              refine (Q.put_ok B q 4096 vq l x X (h.below hX).qh (by omega) ha' (by omega) hk' (by omega) (by omega) (h.below hX).hB).mono ?_
              rintro e w' ⟨rfl, v', l', a, b, c, d'⟩
              exact ⟨rfl, ⟨v', l', (h.below hX).but c.out a.out d'.out, b.out, fun k e => (d'.out k e).elim Or.inl fun h5 => Or.inr (Nat.le_trans hX.size h5)⟩, c⟩
            · rintro e w' ⟨rfl, hR, hb⟩
              obtain ⟨vq', l', a, b, c⟩ := hR.out
              exact ⟨by rw [hr], vq', l', ⟨F, bN, cN, bE, cE, bP, bT, cT, bI, ia, ic, bV, cV, a, hN⟩, c, hb, Or.inl ⟨hr, b⟩⟩
  · refine (take1_no B p q hz d v l pp F bN cN bE cE bP bT cT bI ia ic bV cV vq x w h ho).mono fun e w' k => bel1 1 e w' ?_ (by decide) k
    unfold takeR; rw [if_neg ho]
set_option maxHeartbeats 2000000 in
theorem cancel1_g (p F q : Nat) (d mk : Int) (vs vv : Value) (pp : Option Addr) (sq : Int) (b : Bool) (R : World → Prop) (w : World) (h : w.heap[p]? = some (prC p F q d vs mk vv pp)) (hF : w.cell? ⟨F, 0, none⟩ = some (.int .i64 1)) (hq : Calls Tryz.prog 26 #[.pointer (some ⟨q, 0, none⟩), .int .i64 0, .int .i64 sq] w fun e w' => e = .returned (.bool b) ∧ Hid (R w')) :
    Calls Tryz.prog 10 #[.pointer (some ⟨p, 0, none⟩), .int .i64 0, .int .i64 sq] w fun e w' => e = .returned (.bool b) ∧ Hid (R w') := by
  obtain ⟨y0, y1, y2, y3, y4, y5, y6, y7⟩ := pr8 h
  have lp := hLt h
  have lF := World.block_lt_of_cell? w ⟨F, 0, none⟩ hF
  have HG : Hid (Calls Tryz.prog 22 #[.pointer (some ⟨p, 0, none⟩)] w fun e w' => e = .returned (.bool true) ∧ w' = w) := pgiven_c p w y0
  have HQ : Hid (Calls Tryz.prog 26 #[.pointer (some ⟨q, 0, none⟩), .int .i64 0, .int .i64 sq] w fun e w' => e = .returned (.bool b) ∧ Hid (R w')) := hq
  clear h hq
  go_enter Tryz.func10, Tryz.ntmps10
  go_wp2_with (first
    | (go_at_call 22; refine HG.out.mono ?_; rintro e w1 ⟨rfl, hw⟩; rw [hw]; clear hw)
    | (go_at_call 26; refine HQ.out.mono ?_; rintro e w2 ⟨rfl, HR⟩))
  go_ret
  exact ⟨rfl, HR⟩
set_option maxHeartbeats 2000000 in
theorem cancel1_own (p F q : Nat) (d mk : Int) (vs vv : Value) (pp : Option Addr) (sq : Int) (w : World) (h : w.heap[p]? = some (prC p F q d vs mk vv pp)) (hF : w.cell? ⟨F, 0, none⟩ = some (.int .i64 1)) :
    Calls Tryz.prog 10 #[.pointer (some ⟨p, 0, none⟩), .int .i64 1, .int .i64 sq] w fun e w' => e = .returned (.bool false) ∧ w' = w := by
  obtain ⟨y0, y1, y2, y3, y4, y5, y6, y7⟩ := pr8 h
  have lp := hLt h
  have lF := World.block_lt_of_cell? w ⟨F, 0, none⟩ hF
  have HG : Hid (Calls Tryz.prog 22 #[.pointer (some ⟨p, 0, none⟩)] w fun e w' => e = .returned (.bool true) ∧ w' = w) := pgiven_c p w y0
  clear h
  go_enter Tryz.func10, Tryz.ntmps10
  go_wp2_with (first
    | (go_at_call 22; refine HG.out.mono ?_; rintro e w1 ⟨rfl, hw⟩; rw [hw]; clear hw))
  go_ret
  exact ⟨rfl, rfl⟩
theorem cancelX_own {B p q : Nat} {hz d : Int} {v : ByteArray} {l : List Q.Qu.Ev} {pp : Option Addr} {N : Nat} {vq : Value} {w : World} (h : X1 B p q hz d v l pp N vq w) (sq : Int) :
    Calls Tryz.prog 10 #[.pointer (some ⟨p, 0, none⟩), .int .i64 1, .int .i64 sq] w fun e w' => e = .returned (.bool false) ∧ w' = w := by
  obtain ⟨F, bN, cN, bE, cE, bP, bT, cT, bI, ia, ic, bV, cV, h, hN⟩ := h
  exact cancel1_own p F q d 0 _ _ pp sq w h.pb h.fx.f0
theorem cancelX_no {B p q : Nat} {hz d : Int} {v : ByteArray} {l : List Q.Qu.Ev} {pp : Option Addr} {N : Nat} {vq : Value} {w : World} (h : X1 B p q hz d v l pp N vq w) (hl : l.length ≤ 4096) (sq : Int) (hk : Q.hasK l 0 sq = false) :
    Calls Tryz.prog 10 #[.pointer (some ⟨p, 0, none⟩), .int .i64 0, .int .i64 sq] w fun e w' => e = .returned (.bool false) ∧ Hid (Below w.heap.size w w') := by
  obtain ⟨F, bN, cN, bE, cE, bP, bT, cT, bI, ia, ic, bV, cV, h, hN⟩ := h
  exact cancel1_g p F q d 0 _ _ pp sq false (fun w' => Below w.heap.size w w') w h.pb h.fx.f0 (Q.cancel_no B q 4096 vq l 0 sq w h.qh hl hk)
theorem cancelX_yes {B p q : Nat} {hz d : Int} {v : ByteArray} {l : List Q.Qu.Ev} {pp : Option Addr} {N : Nat} {vq : Value} {w : World} (h : X1 B p q hz d v l pp N vq w) (hl : l.length ≤ 4096) (sq : Int) (hk : Q.hasK l 0 sq = true) :
    Calls Tryz.prog 10 #[.pointer (some ⟨p, 0, none⟩), .int .i64 0, .int .i64 sq] w fun e w' => e = .returned (.bool true) ∧ Hid (∃ vq' l' x, X1 B p q hz d v l' pp N vq' w' ∧ l.Perm (x :: l') ∧ Q.isK 0 sq x ∧ Q.Mv vq vq' w ∧ Q.But2 q vq.ownBlock w w') := by
  obtain ⟨F, bN, cN, bE, cE, bP, bT, cT, bI, ia, ic, bV, cV, h, hN⟩ := h
  refine cancel1_g p F q d 0 _ _ pp sq true _ w h.pb h.fx.f0 ((Q.cancel_yes B q 4096 vq l 0 sq w h.qh hl hk).mono ?_)
  rintro e w' ⟨rfl, v', l', x, a, b, c, d'⟩
  exact ⟨rfl, v', l', x, ⟨F, bN, cN, bE, cE, bP, bT, cT, bI, ia, ic, bV, cV, h.but c.out a.out d'.out, hN⟩, b.out.1, b.out.2, d'.out, c.out⟩
/-- the first step -/
theorem stepX {B p q : Nat} {hz : Int} {v : ByteArray} {l : List Q.Qu.Ev} {pp : Option Addr} {N : Nat} {vq : Value} {w : World} (h : X1 B p q hz (-1) v l pp N vq w) (hl : l.length ≤ 4096) (hnd : ∀ x ∈ l, x.nd = 1) (ht : ∀ x ∈ l, 0 ≤ x.t) :
    Calls Tryz.prog 7 #[.pointer (some ⟨p, 0, none⟩)] w fun e w' => e = .returned (.tuple #[.slice none 0 0, .int .i64 0]) ∧ ∃ vq' v' pp' ds rest, Hid (X1 B p q hz 0 v' rest pp' w'.heap.size vq' w') ∧ Hid (l.Perm (ds ++ rest) ∧ (∀ y ∈ ds, y.t = 0) ∧ (∀ y ∈ rest, 0 < y.t)) ∧ Hid (But3 p q vq.ownBlock w w') := by
  obtain ⟨F, bN, cN, bE, cE, bP, bT, cT, bI, ia, ic, bV, cV, h, hN⟩ := h
  refine (step1_g B p q hz (-1) 0 v l pp F bN cN bE cE bP bT cT bI ia ic bV cV vq w 0 (Nat.zero_le _) (fun k _ => Nat.zero_le _) h hl hnd ((pnext_0 p F q 0 _ _ pp w h.pb).mono (by rintro e w' ⟨rfl, rfl⟩; exact ⟨rfl, Below.refl _ _⟩))).mono ?_
  rintro e w' ⟨rfl, ds, rest, pp', HU, HP, HS, hb⟩
  obtain ⟨vq', hx⟩ := HU.out.x1
  obtain ⟨hp, hds, hr⟩ := HP.out
  refine ⟨rfl, vq', _, pp', ds, rest, hx, ⟨hp, hds, fun y hy => ?_⟩, hb⟩
  have hy0 : 0 ≤ y.t := ht y (hp.symm.subset (by simp [hy]))
  rcases hr with hr | hr
  · subst hr; simp at hy
  · obtain ⟨i, hi, rfl⟩ := List.getElem_of_mem hy
    have hroot := hx.qh.h.root i hi
    rw [Q.Qu.g_at hi] at hroot
    have h0 : 0 ≤ (Q.Qu.g rest 0).t := ht _ (hp.symm.subset (by rw [Q.Qu.g_at (by omega : 0 < rest.length)]; simp))
    unfold Q.Qu.le Q.Qu.lt at hroot
    omega
theorem stepX_none {B p q : Nat} {hz d : Int} {v : ByteArray} {l : List Q.Qu.Ev} {pp : Option Addr} {N : Nat} {vq : Value} {w : World} (h : X1 B p q hz d v l pp N vq w) (hl : l = []) (hd : 0 ≤ d) (h0 : 0 ≤ hz) (h1 : hz ≤ 1000000) :
    Calls Tryz.prog 7 #[.pointer (some ⟨p, 0, none⟩)] w fun e w' => e = .returned (.tuple #[.slice none 0 0, .int .i64 3]) ∧ Below w.heap.size w w' := by
  subst hl
  obtain ⟨F, bN, cN, bE, cE, bP, bT, cT, bI, ia, ic, bV, cV, h, hN⟩ := h
  exact step1_none B p q hz d v pp F bN cN bE cE bP bT cT bI ia ic bV cV vq w h hd h0 h1
theorem But2.low {q B : Nat} {U : Option Nat} {w w' : World} (h : Q.But2 q U w w') (hU : ∀ k, U = some k → B ≤ k) (hq : B ≤ q) (hw : B ≤ w.heap.size) : Below B w w' :=
  ⟨h.os, h.tape, h.output, h.size, fun k hk => h.block k (by omega) (by omega) fun e => by have := hU k e; omega⟩
end Go.Proofs.YtokepgnnepjiaaaGreat
