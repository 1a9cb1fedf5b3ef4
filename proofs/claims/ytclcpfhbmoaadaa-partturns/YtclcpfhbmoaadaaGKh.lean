/- Texts KX KY KYb, joined: what each part says stands ahead of it. -/
import Derived.Test.YtclcpfhbmoaadaaGKf
import Derived.Test.YtclcpfhbmoaadaaGKg
/- The shared book's binary and clock. -/
namespace Go.Proofs.Ytclcpfhbmoaadaa
open Go.RowKit Lg Nl Go.Maps
set_option linter.unusedVariables false
set_option linter.unusedSimpArgs false

def binW (op wd : Int) : Int := if (17 ≤ op ∧ op ≤ 22) ∨ op = 26 ∨ op = 27 then 1 else wd
set_option maxHeartbeats 400000 in
theorem kBinary_c (op wd : Int) (w : World) : Calls Try.prog 18 #[.int .i64 op, .int .i64 wd] w fun e w' => e = .returned (.int .i64 (binW op wd)) ∧ w' = w := by
  rcases (by omega : op < 17 ∨ (17 ≤ op ∧ op ≤ 22) ∨ (22 < op ∧ op ≠ 26 ∧ op ≠ 27) ∨ op = 26 ∨ op = 27) with h | ⟨h1, h2⟩ | ⟨h, h1, h2⟩ | rfl | rfl
  all_goals
    go_enter Try.func18, Try.ntmps18
    go_wp2
    all_goals (go_ret; exact ⟨ret_int (by unfold binW; split <;> first | omega | (simp_all <;> omega)), rfl⟩)
theorem andFF (n : Int) : bits .and .i64 n 65535 = n % 65536 := maskK n 16 65535 (by decide) (by decide)
theorem and7 (n : Int) : bits .and .i64 n 7 = n % 8 := maskK n 3 7 (by decide) (by decide)
set_option maxHeartbeats 1000000 in
theorem kClock_c (ao : Option Addr) (n cap : Nat) (ta : Option Addr) (tn tc : Nat) (pt z : Int) (w : World) (h1 : 1 ≤ n) (h2 : n ≤ 100000) : Calls Try.prog 19 #[.agg #[.slice ao n cap, .slice ta tn tc, .int .i64 pt], .int .i64 z] w fun e w' => (∃ c : Nat, e = .returned (.int .i64 c) ∧ c < n) ∧ Below w.heap.size w w' := by
  have a1 := andFF
  have a2 := and7
  have n1 : (1 : Int) ≤ (n : Int) := by omega
  have n2 : ((n : Int) == 0) = false := by simp; omega
  go_enter Try.func19, Try.ntmps19
  go_wp2
  all_goals go_ret
  · have e1 := Int.emod_nonneg (z / 8 % 65536) (b := (n : Int)) (by omega)
    have e2 := Int.emod_lt_of_pos (z / 8 % 65536) (b := (n : Int)) (by omega)
    exact ⟨⟨(z / 8 % 65536 % (n : Int)).toNat, ret_int (Int.toNat_of_nonneg e1).symm, by omega⟩, belA (Below.refl _ _) _⟩
  · exact ⟨⟨0, rfl, by omega⟩, belA (Below.refl _ _) _⟩
theorem take_setA (cur : Array Value) (m k : Nat) (v : Value) (hk : k < cur.size) : (cur.set k v hk).toList.take m = (cur.toList.take m).set k v := by
  rw [Array.toList_set, List.take_set]
theorem NcAt.setIns {w : World} {N : Nat → Prop} {l : List Nd} {xs : List Value} (h : NcAt w N l xs) : ∀ {i : Nat} (hi : i < l.length) {vi : Value} {ins : List Int}, IntsN w N vi ins → NcAt w N (l.set i { (l[i]'hi) with ins := ins }) (xs.set (i * 8 + 3) vi) := by
  induction h with
  | nil => intro i hi; cases hi
  | @cons x v l xs h1 h2 ih =>
    intro i hi vi ins hv
    cases i with
    | zero =>
      show NcAt w N ({ x with ins := ins } :: l) ((ndC x v ++ xs).set 3 vi)
      have e : (ndC x v ++ xs).set 3 vi = ndC { x with ins := ins } vi ++ xs := rfl
      rw [e]
      exact .cons hv h2
    | succ i =>
      have e : (ndC x v ++ xs).set ((i + 1) * 8 + 3) vi = ndC x v ++ xs.set (i * 8 + 3) vi := by
        rw [show (i + 1) * 8 + 3 = (ndC x v).length + (i * 8 + 3) by show _ = 8 + _; omega]
        rw [List.set_append_right _ _ (by omega), Nat.add_sub_cancel_left]
      rw [e]
      exact .cons h1 (ih (by simpa using hi) hv)
/-- a node's Ins give way to others -/
theorem LsW.setIns {B b g cap n : Nat} {l : List Nd} {vT : Value} {pt : Pt} {w : World} (h : LsW B b l (.slice (some ⟨g, 0, none⟩) n cap) vT pt w) {i : Nat} (hi : i < l.length) {vi : Value} {ins : List Int} (hv : IntsN w (Nb B b (.slice (some ⟨g, 0, none⟩) n cap) vT) vi ins) :
    LsW B b (l.set i { (l[i]'hi) with ins := ins }) (.slice (some ⟨g, 0, none⟩) n cap) vT pt (w.setCell ⟨g, i * 8 + 3, none⟩ vi) ∧ Below B w (w.setCell ⟨g, i * 8 + 3, none⟩ vi) := by
  obtain ⟨xs, ho, hn⟩ := h.row
  have hgb : g ≠ b := fun e => own_neT ho h.blk (by decide) (by rw [← e]; rfl)
  have hB := own_ge ho g rfl
  refine ⟨⟨(Below.heap_setCell _ _ _ _ (Ne.symm hgb)).trans h.blk, ⟨xs.set (i * 8 + 3) vi, ?_, ?_⟩, h.hb, own_keep (N := Nb1 B b (.slice (some ⟨g, 0, none⟩) n cap)) h.nt.1 h.nt.2 ⟨by simp [World.setCell], fun k hk hN => Below.heap_setCell _ _ _ _ (fun e => hN.2.2 (by subst e; rfl))⟩, h.nt.2⟩, (Below.refl B w).setCell hB _⟩
  · obtain ⟨h1, h2⟩ := ho
    refine ⟨by rw [List.length_set, List.length_set]; exact h1, Or.inr ?_⟩
    rcases h2 with ⟨h2, _⟩ | ⟨g', cap', cur, hv', hg, hh, hc, hm, hz, ht⟩
    · cases h2
    · injection hv' with e1 e2 e3
      injection e1 with e1
      injection e1 with e1
      subst e1 e2 e3
      have hk : i * 8 + 3 < cur.size := by rw [hz]; omega
      refine ⟨g, cap, cur.set (i * 8 + 3) vi hk, by rw [List.length_set], hg, ?_, by rw [List.length_set]; exact hc, hm, by rw [Array.size_set]; exact hz, by rw [List.length_set, take_setA, ht]⟩
      simp only [World.setCell]
      rw [Array.getElem?_modify, if_pos rfl, hh]
      simp [Array.setIfInBounds, hk]
  · have hK : KeepN (Nb B b (.slice (some ⟨g, 0, none⟩) n cap) vT) w (w.setCell ⟨g, i * 8 + 3, none⟩ vi) := ⟨by simp [World.setCell], fun k hk hN => Below.heap_setCell _ _ _ _ (fun e => hN.1.2.2 (by subst e; rfl))⟩
    exact (hn.keep hK).setIns hi (hv.keep hK)
end Go.Proofs.Ytclcpfhbmoaadaa

/- The shared book's back: delays and data hang on what stands behind them. -/
namespace Go.Proofs.Ytclcpfhbmoaadaa
open Go.RowKit Lg Nl Go.Maps
set_option linter.unusedVariables false
set_option linter.unusedSimpArgs false

/-- gates: five numbers each, in a block ahead of B -/
def GsAt (w : World) (B : Nat) (v : Value) (m : Nat) (F : Nat → Nat → Int) : Prop :=
  ∃ ao cap, v = .slice ao m cap ∧ (m = 0 ∨ ∃ g o, ao = some ⟨g, o, none⟩ ∧ g < B ∧ B ≤ w.heap.size ∧ ∀ j q, j < m → q < 5 → w.cell? ⟨g, o + j * 5 + q, none⟩ = some (.int .i64 (F j q)))
theorem GsAt.below {w w' : World} {B m : Nat} {v : Value} {F : Nat → Nat → Int} (h : GsAt w B v m F) (hb : Below B w w') : GsAt w' B v m F := by
  obtain ⟨ao, cap, rfl, h⟩ := h
  refine ⟨ao, cap, rfl, ?_⟩
  rcases h with h | ⟨g, o, rfl, hg, hB, h⟩
  · exact Or.inl h
  · exact Or.inr ⟨g, o, rfl, hg, Nat.le_trans hB hb.size, fun j q hj hq => by rw [World.cell?_of_block (w := w) (a := ⟨g, o + j * 5 + q, none⟩) (hb.block g hg)]; exact h j q hj hq⟩
theorem Mk.delay {l : List Nd} (h : Mk l) {i t : Nat} (hi : i < l.length) (ht : t < l.length) (hk : (l[i]'hi).k = 8) (hw : wdAt l (t : Int) = (l[i]'hi).wd) : Mk (l.set i { (l[i]'hi) with ins := [(t : Int)] }) := by
  have a := h.ok i hi
  rw [ndAt_eq hi] at a
  refine h.set hi (by rw [ndAt_eq hi]) (by rw [ndAt_eq hi]) ⟨a.w, a.z, by simp [inB]; omega, ?_, a.ki, ?_⟩
  · have b := a.n
    unfold nodeB at b ⊢
    simp only [hk] at b ⊢
    simp at b ⊢
    refine ⟨by simp [wsOf], by simp [wsOf, wn, hw], b.2.2⟩
  · intro y hy
    unfold hangL at hy
    simp only [hk] at hy
    simp at hy
theorem Mk.flip {l : List Nd} (h : Mk l) {i t : Nat} (hi : i < l.length) (ht : t < l.length) (hk : (l[i]'hi).k = 7) (hw : wdAt l (t : Int) = (l[i]'hi).wd) : ∃ c d, (l[i]'hi).ins = [c, d] ∧ Mk (l.set i { (l[i]'hi) with ins := [c, (t : Int)] }) := by
  have a := h.ok i hi
  rw [ndAt_eq hi] at a
  have hl2 := node_flip hk a.n
  rw [wsOf_len] at hl2
  obtain ⟨c, d, hcd⟩ : ∃ c d, (l[i]'hi).ins = [c, d] := by
    rcases hq : (l[i]'hi).ins with _ | ⟨c, _ | ⟨d, _ | ⟨e, r⟩⟩⟩
    · rw [hq] at hl2; simp at hl2
    · rw [hq] at hl2; simp at hl2
    · exact ⟨c, d, rfl⟩
    · rw [hq] at hl2; simp at hl2
  refine ⟨c, d, hcd, ?_⟩
  have hci : inB l.length c = true := by have := a.ii; rw [hcd] at this; simp at this; exact this.1
  refine h.set hi (by rw [ndAt_eq hi]) (by rw [ndAt_eq hi]) ⟨a.w, a.z, by simp [hci]; simp [inB]; omega, ?_, a.ki, ?_⟩
  · unfold nodeB
    simp only [hk]
    simp
    refine ⟨by simp [wsOf], by simp [wsOf, wn, hw]⟩
  · intro y hy
    refine a.h y ?_
    unfold hangL at hy ⊢
    simp only [hk] at hy ⊢
    rw [hcd]
    simpa using hy
end Go.Proofs.Ytclcpfhbmoaadaa

/- The shared book's back has its contract. -/
namespace Go.Proofs.Ytclcpfhbmoaadaa
open Go.RowKit Lg Nl Go.Maps
set_option linter.unusedVariables false
set_option linter.unusedSimpArgs false

theorem LsW.row_ {B b : Nat} {l : List Nd} {vN vT : Value} {pt : Pt} {w : World} (h : LsW B b l vN vT pt w) (hl : 0 < l.length) : ∃ g cap, vN = .slice (some ⟨g, 0, none⟩) l.length cap ∧ g ≠ b ∧ B ≤ g ∧ g < w.heap.size ∧ (∀ j, w.frozen? ⟨g, j, none⟩ = false) ∧ ∀ i (hi : i < l.length), ∃ ia ic, IntsN w (Nb B b vN vT) (.slice ia l[i].ins.length ic) l[i].ins ∧
    w.cell? ⟨g, i * 8, none⟩ = some (.int .i64 l[i].k) ∧ w.cell? ⟨g, i * 8 + 1, none⟩ = some (.int .i64 l[i].op) ∧ w.cell? ⟨g, i * 8 + 2, none⟩ = some (.int .i64 l[i].wd) ∧ w.cell? ⟨g, i * 8 + 3, none⟩ = some (.slice ia l[i].ins.length ic) ∧ w.cell? ⟨g, i * 8 + 4, none⟩ = some (.string (S l[i].vl)) ∧ w.cell? ⟨g, i * 8 + 5, none⟩ = some (.int .i64 l[i].hi) ∧ w.cell? ⟨g, i * 8 + 6, none⟩ = some (.int .i64 l[i].lo) ∧ w.cell? ⟨g, i * 8 + 7, none⟩ = some (.int .i64 l[i].tm) := by
  obtain ⟨xs, ho, hn⟩ := h.row
  have hnb := own_neT ho h.blk (by decide)
  rcases id ho.2 with ⟨_, h0⟩ | ⟨g, cap, cur, rfl, hg, hh, hc, _, hz, ht⟩
  · omega
  · refine ⟨g, cap, rfl, fun e => hnb (by rw [← e]; rfl), hg, hLt hh, fun j => Lib.frozen_of_heap hh j, fun i hi => ?_⟩
    obtain ⟨vi, a, b⟩ := hn.at_ i hi
    have key : ∀ j u, (ndC l[i] vi)[j]? = some u → w.cell? ⟨g, i * 8 + j, none⟩ = some u := fun j u hu => by
      have hx := b j u hu
      rw [Lib.cell_of_heap hh]
      rw [← ht, List.getElem?_take] at hx
      split at hx
      · simpa using hx
      · cases hx
    obtain ⟨ia, ic, rfl, _⟩ := id a
    exact ⟨ia, ic, a, key 0 _ rfl, key 1 _ rfl, key 2 _ rfl, key 3 _ rfl, key 4 _ rfl, key 5 _ rfl, key 6 _ rfl, key 7 _ rfl⟩
theorem two_new {B b : Nat} {l : List Nd} {vN vT : Value} {pt : Pt} {w : World} (h : LsW B b l vN vT pt w) (y z : Int) : IntsN (w.alloc (.cells #[.int .i64 y, .int .i64 z] 3)) (Nb B b vN vT) (.slice (some ⟨w.heap.size, 0, none⟩) 2 2) [y, z] := by
  refine ⟨_, 2, rfl, Nat.le_refl _, Or.inr ⟨w.heap.size, 0, rfl, h.newN, by simp, fun i hi => ?_⟩⟩
  have h0 : i = 0 ∨ i = 1 := by simp at hi; omega
  rcases h0 with rfl | rfl <;> (rw [Lib.cell_of_heap (alAt rfl)]; rfl)
theorem setAlloc {w : World} {g j : Nat} {v : Value} {o : Obj} (h : g < w.heap.size) : (w.setCell ⟨g, j, none⟩ v).alloc o = (w.alloc o).setCell ⟨g, j, none⟩ v := (World.setCell_alloc_past o g j v h).symm
theorem kAS {W : World} {g j b off : Nat} {v x : Value} {o : Obj} (hne : b ≠ g) (hb : b < W.heap.size) (h : W.cell? ⟨b, off, none⟩ = some x) : ((W.setCell ⟨g, j, none⟩ v).alloc o).cell? ⟨b, off, none⟩ = some x := by
  have hs : b < (W.setCell ⟨g, j, none⟩ v).heap.size := by simp [World.setCell]; exact hb
  rw [World.cell?_of_block (w := W.setCell ⟨g, j, none⟩ v) (a := ⟨b, off, none⟩) (alOld hs), World.cell?_of_block (w := W) (a := ⟨b, off, none⟩) (Below.heap_setCell _ _ _ _ hne)]
  exact h
theorem IntsN.first {w : World} {N : Nat → Prop} {ia : Option Addr} {q ic : Nat} {c d : Int} (h : IntsN w N (.slice ia q ic) [c, d]) : ∃ gi oi, ia = some ⟨gi, oi, none⟩ ∧ N gi ∧ gi < w.heap.size ∧ w.cell? ⟨gi, oi, none⟩ = some (.int .i64 c) := by
  obtain ⟨ao, cap, hv, _, h⟩ := h
  injection hv with e1 e2 e3
  subst e1
  rcases h with h | ⟨g, o, rfl, hN, hg, h⟩
  · cases h
  · exact ⟨g, o, rfl, hN, hg, h 0 (by simp)⟩
set_option maxRecDepth 100000 in
set_option maxHeartbeats 4000000 in
theorem kBack_c (B b : Nat) (l : List Nd) (vN vT vG : Value) (pt : Pt) (m : Nat) (F : Nat → Nat → Int) (w : World) (h : LsW B b l vN vT pt w) (hM : Mk l) (hG : GsAt w B vG m F) (hl : l.length ≤ 1000) (hm : m ≤ 17592186044416) (hB : B ≤ w.heap.size) :
    Calls Try.prog 20 #[.pointer (some ⟨b, 0, none⟩), vG] w fun e w' => e = .returned (.tuple #[]) ∧ (∃ l' vN', LsW B b l' vN' vT pt w' ∧ Mk l' ∧ l'.length = l.length) ∧ Below B w w' := by
  obtain ⟨ga, gc, rfl, hG'⟩ := id hG
  obtain ⟨n, hn⟩ : ∃ n, n = l.length := ⟨_, rfl⟩
  rw [← hn] at hl ⊢
  have hn2 : 2 ≤ n := by rw [hn]; exact hM.two
  obtain ⟨na, nc, hvN⟩ := h.slice_
  rw [← hn] at hvN
  subst hvN
  obtain ⟨p0, p1, p2⟩ := cells3n h.blk
  have HL : Hid (LsW B b l (.slice na n nc) vT pt w) := h
  have HM : Hid (Mk l) := hM
  have HG : Hid (GsAt w B (.slice ga m gc) m F) := hG
  have HNL : Hid (l.length = n) := hn.symm
  have aF := andFF
  have a1 := and1
  clear h hM hG hn hG'
  go_enter Try.func20, Try.ntmps20
  go_wp2
  go_loopw [5] (fun s5 W => ∃ (i : Nat) (l' : List Nd) (na' : Option Addr) (nc' : Nat), i ≤ n ∧ s5 = .int .i64 i ∧ Hid (LsW B b l' (.slice na' n nc') vT pt W) ∧ Hid (Mk l') ∧ Hid (l'.length = n) ∧ Hid (Below B w W)) (fun s5 W => n - (intOf s5).toNat)
  case atStart => exact ⟨0, l, na, nc, Nat.zero_le _, rfl, HL.out, HM.out, HNL.out, Below.refl _ _⟩
  case round =>
    clear HL HM HNL p0 p1 p2
    obtain ⟨i, l', na', nc', hi, rfl, HL, HM, HNL, HB⟩ := hrel
    by_cases hlt : i < n ∧ i < m
    · obtain ⟨hin, him⟩ := hlt
      have hil : i < l'.length := by rw [HNL.out]; exact hin
      obtain ⟨g, cap, hvg, hgb, hBg, hgl, hfz, hrow⟩ := HL.out.row_ (by omega)
      injection hvg with e1 e2 e3
      subst e1
      obtain ⟨ia, ic, hI, d0, d1, d2, d3, d4, d5, d6, d7⟩ := hrow i hil
      obtain ⟨p0, p1, p2⟩ := cells3n HL.out.blk
      have hbl := hLt HL.out.blk
      have hBb := HL.out.hb
      obtain ⟨g2, o2, hga, hg2, hgs⟩ : ∃ g2 o2, ga = some ⟨g2, o2, none⟩ ∧ g2 < B ∧ ∀ j q, j < m → q < 5 → wr.cell? ⟨g2, o2 + j * 5 + q, none⟩ = some (.int .i64 (F j q)) := by
        obtain ⟨ao, cap', hv, hh⟩ := HG.out.below HB.out
        injection hv with e1 e2 e3
        subst e1
        rcases hh with hh | ⟨g, o, rfl, hg, _, hh⟩
        · omega
        · exact ⟨g, o, rfl, hg, hh⟩
      subst hga
      have f1 := hgs i 1 him (by omega)
      have f2 := hgs i 2 him (by omega)
      obtain ⟨t, ht⟩ : ∃ t : Nat, F i 2 / 65536 % 65536 % (n : Int) = (t : Int) := ⟨(F i 2 / 65536 % 65536 % (n : Int)).toNat, by have := Int.emod_nonneg (F i 2 / 65536 % 65536) (b := (n : Int)) (by omega); omega⟩
      have htn : t < n := by have := Int.emod_lt_of_pos (F i 2 / 65536 % 65536) (b := (n : Int)) (by omega); omega
      have htl : t < l'.length := by rw [HNL.out]; exact htn
      obtain ⟨_, _, _, _, _, tw, _⟩ := hrow t htl
      have hwt : wdAt l' (t : Int) = l'[t].wd := wdAt_eq htl
      generalize F i 2 = zB at f2 ht
      generalize F i 1 = zA at f1
      have i1 : (0 : Int) ≤ (i : Int) := by omega
      have i2 : (i : Int) < (n : Int) := by omega
      have i3 : (i : Int) < (m : Int) := by omega
      have t1 : (0 : Int) ≤ (t : Int) := by omega
      have t2 : (t : Int) < (n : Int) := by omega
      have n0 : ((n : Int) == 0) = false := by simp; omega
      have n1 : (1 : Int) ≤ (n : Int) := by omega
      have HI : Hid (IntsN wr (Nb B b (.slice (some ⟨g, 0, none⟩) n nc') vT) (.slice ia l'[i].ins.length ic) l'[i].ins) := hI
      have hg2l : g2 < wr.heap.size := by have := HB.out.size; omega
      obtain ⟨x, hx⟩ : ∃ x, x = l'[i] := ⟨_, rfl⟩
      obtain ⟨tv, htv⟩ : ∃ tv, tv = l'[t].wd := ⟨_, rfl⟩
      rw [← hx] at d0 d1 d2 d3 d4 d5 d6 d7 HI
      rw [← htv] at tw hwt
      have HX : Hid (x = l'[i]) := hx
      have HWT : Hid (wdAt l' (t : Int) = tv) := hwt
      clear hrow hgs hI e2 e3 hx htv hwt
      obtain ⟨k, op, wd, ins, vl, hi', lo, tm⟩ := x
      simp only at d0 d1 d2 d3 d4 d5 d6 d7 HI
      have P : ((tv != wd) = true) ∨ ((tv != wd) = false ∧ (zA / 65536 % 2 == 0) = true) ∨ ((tv != wd) = false ∧ (zA / 65536 % 2 == 0) = false) := by cases (tv != wd) <;> cases (zA / 65536 % 2 == 0) <;> simp
      rcases P with q1 | ⟨q1, q2⟩ | ⟨q1, q2⟩
      · go_wp2_with fail
        go_quiet (fail)
        go_wp2_with fail
        go_roundw
        case rel => exact ⟨i + 1, l', _, _, hin, by go_num, HL.out.below (belDN (belA (Below.refl _ _) _) _), HM.out, HNL.out, HB.out.trans (((belDN (belA (Below.refl wr.heap.size wr) _) _)).mono (by have := HB.out.size; omega))⟩
        case measure => simp [intOf]; omega
      · go_wp2_with fail
        go_quiet (fail)
        go_wp2_with fail
        go_roundw
        case rel => exact ⟨i + 1, l', _, _, hin, by go_num, HL.out.below (belDN (belA (Below.refl _ _) _) _), HM.out, HNL.out, HB.out.trans (((belDN (belA (Below.refl wr.heap.size wr) _) _)).mono (by have := HB.out.size; omega))⟩
        case measure => simp [intOf]; omega
      · go_wp2_with fail
        go_quiet (fail)
        rcases (by omega : k = 8 ∨ k = 7 ∨ (k ≠ 8 ∧ k ≠ 7)) with rfl | rfl | ⟨k8, k7⟩
        · have hW1 : Below wr.heap.size wr ((wr.alloc (.cells #[.int .i64 8, .int .i64 op, .int .i64 wd, .slice ia ins.length ic, .string (S vl), .int .i64 hi', .int .i64 lo, .int .i64 tm] 47)).drewN nq) := belDN (belA (Below.refl _ _) _) _
          have L1 := HL.out.below hW1
          have hz1 : ((wr.alloc (.cells #[.int .i64 8, .int .i64 op, .int .i64 wd, .slice ia ins.length ic, .string (S vl), .int .i64 hi', .int .i64 lo, .int .i64 tm] 47)).drewN nq).heap.size = wr.heap.size + 1 := by simp
          have I1 := one_new L1 (t : Int)
          have L2 := (L1.below (belA (Below.refl _ _) (.cells #[.int .i64 (t : Int)] 3))).setIns hil I1
          have M2 := HM.out.delay hil htl (by rw [← HX.out]) (by rw [HWT.out, ← HX.out]; simpa using q1)
          rw [hz1] at L2
          have HL2 : Hid _ := L2
          have HM2 : Hid _ := M2
          clear L1 I1 L2 M2 hz1 hW1
          go_wp2_with fail
          go_roundw
          case rel =>
            rw [setAlloc (by simp; omega)]
            refine ⟨i + 1, _, _, _, hin, by go_num, HL2.out.1, HM2.out, by show _ = n; rw [List.length_set]; exact HNL.out, ?_⟩
            have e1 : Below B w (((wr.alloc (.cells #[.int .i64 8, .int .i64 op, .int .i64 wd, .slice ia ins.length ic, .string (S vl), .int .i64 hi', .int .i64 lo, .int .i64 tm] 47)).drewN nq).alloc (.cells #[.int .i64 (t : Int)] 3)) := HB.out.trans ((belA (belDN (belA (Below.refl wr.heap.size wr) _) _) _).mono (by have := HB.out.size; omega))
            exact e1.trans HL2.out.2
          case measure => simp [intOf]; omega
        · obtain ⟨c, dd, hcd, M2⟩ := HM.out.flip hil htl (by rw [← HX.out]) (by rw [HWT.out, ← HX.out]; simpa using q1)
          rw [← HX.out] at hcd
          simp only at hcd
          subst hcd
          obtain ⟨gi, oi, rfl, hNi, gil, gic⟩ := HI.out.first
          have ngi : gi ≠ g := fun e => hNi.1.2.2 (by subst e; rfl)
          have ngi2 : gi ≠ b := hNi.1.2.1
          have hW1 : Below wr.heap.size wr ((wr.alloc (.cells #[.int .i64 7, .int .i64 op, .int .i64 wd, .slice (some ⟨gi, oi, none⟩) 2 ic, .string (S vl), .int .i64 hi', .int .i64 lo, .int .i64 tm] 47)).drewN nq) := belDN (belA (Below.refl _ _) _) _
          have L1 := HL.out.below hW1
          have hz1 : ((wr.alloc (.cells #[.int .i64 7, .int .i64 op, .int .i64 wd, .slice (some ⟨gi, oi, none⟩) 2 ic, .string (S vl), .int .i64 hi', .int .i64 lo, .int .i64 tm] 47)).drewN nq).heap.size = wr.heap.size + 1 := by simp
          have I1 := two_new L1 c (t : Int)
          have L2 := (L1.below (belA (Below.refl _ _) (.cells #[.int .i64 c, .int .i64 (t : Int)] 3))).setIns hil I1
          rw [hz1] at L2
          have HL2 : Hid _ := L2
          have HM2 : Hid _ := M2
          have nb1 : b ≠ g := fun e => hgb e.symm
          have nb2 : wr.heap.size ≠ g := by omega
          have hk0 : ∀ k, ((wr.alloc (.cells #[.int .i64 7, .int .i64 op, .int .i64 wd, .slice (some ⟨gi, oi, none⟩) 2 ic, .string (S vl), .int .i64 hi', .int .i64 lo, .int .i64 tm] 47)).drewN k).cell? ⟨b, 0, none⟩ = some (.slice (some ⟨g, 0, none⟩) n nc') := fun k => ((belDN (belA (Below.refl wr.heap.size wr) (.cells #[.int .i64 7, .int .i64 op, .int .i64 wd, .slice (some ⟨gi, oi, none⟩) 2 ic, .string (S vl), .int .i64 hi', .int .i64 lo, .int .i64 tm] 47)) k).cell (p := ⟨b, 0, none⟩) hbl).trans p0
          have hk3 : ∀ k, ((wr.alloc (.cells #[.int .i64 7, .int .i64 op, .int .i64 wd, .slice (some ⟨gi, oi, none⟩) 2 ic, .string (S vl), .int .i64 hi', .int .i64 lo, .int .i64 tm] 47)).drewN k).cell? ⟨wr.heap.size, 3, none⟩ = some (.slice (some ⟨gi, oi, none⟩) 2 ic) := fun k => by
            show (wr.alloc (.cells #[.int .i64 7, .int .i64 op, .int .i64 wd, .slice (some ⟨gi, oi, none⟩) 2 ic, .string (S vl), .int .i64 hi', .int .i64 lo, .int .i64 tm] 47)).cell? ⟨wr.heap.size, 3, none⟩ = _
            rw [Lib.cell_of_heap (alAt rfl)]; rfl
          have hkg : ∀ k, ((wr.alloc (.cells #[.int .i64 7, .int .i64 op, .int .i64 wd, .slice (some ⟨gi, oi, none⟩) 2 ic, .string (S vl), .int .i64 hi', .int .i64 lo, .int .i64 tm] 47)).drewN k).cell? ⟨gi, oi, none⟩ = some (.int .i64 c) := fun k => ((belDN (belA (Below.refl wr.heap.size wr) (.cells #[.int .i64 7, .int .i64 op, .int .i64 wd, .slice (some ⟨gi, oi, none⟩) 2 ic, .string (S vl), .int .i64 hi', .int .i64 lo, .int .i64 tm] 47)) k).cell (p := ⟨gi, oi, none⟩) gil).trans gic
          have HK0 : Hid _ := hk0
          have HK3 : Hid _ := hk3
          have HKG : Hid _ := hkg
          have d3' : wr.cell? ⟨g, i * 8 + 3, none⟩ = some (.slice (some ⟨gi, oi, none⟩) 2 ic) := d3
          clear L1 I1 L2 M2 hz1 hW1 hk0 hk3 hkg d3
          go_wp2_with fail
          go_region_held3 (fun w' => w'.cell? ⟨b, 0, none⟩ = some (.slice (some ⟨g, 0, none⟩) n nc') ∧ w'.cell? ⟨wr.heap.size, 3, none⟩ = some (.slice (some ⟨gi, oi, none⟩) 2 ic) ∧ w'.cell? ⟨gi, oi, none⟩ = some (.int .i64 c)) (first | exact ⟨kAS nb1 (by simp; omega) (HK0.out _), kAS nb2 (by simp) (HK3.out _), kAS ngi (by simp; omega) (HKG.out _)⟩ | go_keep) (fail)
          all_goals go_wp2_with fail
          all_goals
            go_roundw
            case rel =>
              rw [setAlloc (by simp; omega)]
              refine ⟨i + 1, _, some ⟨g, 0, none⟩, nc', hin, by go_num, HL2.out.1.below ⟨rfl, rfl, rfl, Nat.le_refl _, fun _ _ => rfl⟩, HM2.out, by show _ = n; rw [List.length_set]; exact HNL.out, ?_⟩
              · have e1 : Below B w (((wr.alloc (.cells #[.int .i64 7, .int .i64 op, .int .i64 wd, .slice (some ⟨gi, oi, none⟩) 2 ic, .string (S vl), .int .i64 hi', .int .i64 lo, .int .i64 tm] 47)).drewN nq).alloc (.cells #[.int .i64 c, .int .i64 (t : Int)] 3)) := HB.out.trans ((belA (belDN (belA (Below.refl wr.heap.size wr) _) _) _).mono (by have := HB.out.size; omega))
                exact (e1.trans HL2.out.2).trans ⟨rfl, rfl, rfl, Nat.le_refl _, fun _ _ => rfl⟩
            case measure => simp [intOf]; omega
        · have g8 : (k == 8) = false := by simpa using k8
          have g7 : (k == 7) = false := by simpa using k7
          clear k8 k7
          go_wp2_with fail
          go_roundw
          case rel => exact ⟨i + 1, l', _, _, hin, by go_num, HL.out.below (belDN (belA (Below.refl _ _) _) _), HM.out, HNL.out, HB.out.trans (((belDN (belA (Below.refl wr.heap.size wr) _) _)).mono (by have := HB.out.size; omega))⟩
          case measure => simp [intOf]; omega
    · have hend : ¬ (i : Int) < (n : Int) ∨ ((i : Int) < (n : Int) ∧ ¬ (i : Int) < (m : Int)) := by omega
      clear hlt
      rcases hend with e1 | ⟨e1, e2⟩
      all_goals
        go_wp2_with fail
        go_end0
        first | exact ⟨rfl, ⟨l', ⟨_, HL.out⟩, HM.out, HNL.out⟩, HB.out⟩ | exact ⟨⟨l', ⟨_, HL.out⟩, HM.out, HNL.out⟩, HB.out⟩ | exact ⟨rfl, ⟨l', _, HL.out, HM.out, HNL.out⟩, HB.out⟩
end Go.Proofs.Ytclcpfhbmoaadaa
