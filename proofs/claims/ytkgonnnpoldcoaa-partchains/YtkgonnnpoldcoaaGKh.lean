/- Texts KX KY KYb, joined: what each part says stands ahead of it. -/
import Derived.Test.YtkgonnnpoldcoaaGKf
import Derived.Test.YtkgonnnpoldcoaaGKg
/- The shared book's binary and clock. -/
namespace Go.Proofs.Ytkgonnnpoldcoaa
open Go.RowKit Lg Nl Go.Maps
set_option linter.unusedVariables false
set_option linter.unusedSimpArgs false

def binW (op wd : Int) : Int := if (17 ≤ op ∧ op ≤ 22) ∨ op = 26 ∨ op = 27 then 1 else wd
set_option maxHeartbeats 400000 in
theorem kBinary_c (op wd : Int) (w : World) : Calls Try.prog 18 #[.int .i64 op, .int .i64 wd] w fun e w' => e = .returned (.int .i64 (binW op wd)) ∧ w' = w := by
  rcases (by omega : op < 17 ∨ (17 ≤ op ∧ op ≤ 22) ∨ (22 < op ∧ op ≠ 26 ∧ op ≠ 27) ∨ op = 26 ∨ op = 27) with h | ⟨h1, h2⟩ | ⟨h, h1, h2⟩ | rfl | rfl
  all_goals
    go_enter Try.func18, Try.ntmps18
    go_wp2
    all_goals (go_ret; exact ⟨ret_int (by unfold binW; split <;> first | omega | (simp_all <;> omega)), rfl⟩)
theorem andFF (n : Int) : bits .and .i64 n 65535 = n % 65536 := maskK n 16 65535 (by decide) (by decide)
theorem and7 (n : Int) : bits .and .i64 n 7 = n % 8 := maskK n 3 7 (by decide) (by decide)
set_option maxHeartbeats 1000000 in
theorem kClock_c (ao : Option Addr) (n cap : Nat) (ta : Option Addr) (tn tc : Nat) (pt z : Int) (w : World) (h1 : 1 ≤ n) (h2 : n ≤ 100000) : Calls Try.prog 19 #[.agg #[.slice ao n cap, .slice ta tn tc, .int .i64 pt], .int .i64 z] w fun e w' => (∃ c : Nat, e = .returned (.int .i64 c) ∧ c < n) ∧ Below w.heap.size w w' := by
  have a1 := andFF
  have a2 := and7
  have n1 : (1 : Int) ≤ (n : Int) := by omega
  have n2 : ((n : Int) == 0) = false := by simp; omega
  go_enter Try.func19, Try.ntmps19
  go_wp2
  all_goals go_ret
  · have e1 := Int.emod_nonneg (z / 8 % 65536) (b := (n : Int)) (by omega)
    have e2 := Int.emod_lt_of_pos (z / 8 % 65536) (b := (n : Int)) (by omega)
    exact ⟨⟨(z / 8 % 65536 % (n : Int)).toNat, ret_int (Int.toNat_of_nonneg e1).symm, by omega⟩, belA (Below.refl _ _) _⟩
  · exact ⟨⟨0, rfl, by omega⟩, belA (Below.refl _ _) _⟩
theorem take_setA (cur : Array Value) (m k : Nat) (v : Value) (hk : k < cur.size) : (cur.set k v hk).toList.take m = (cur.toList.take m).set k v := by
  rw [Array.toList_set, List.take_set]
theorem NcAt.setIns {w : World} {N : Nat → Prop} {l : List Nd} {xs : List Value} (h : NcAt w N l xs) : ∀ {i : Nat} (hi : i < l.length) {vi : Value} {ins : List Int}, IntsN w N vi ins → NcAt w N (l.set i { (l[i]'hi) with ins := ins }) (xs.set (i * 8 + 3) vi) := by
  induction h with
  | nil => intro i hi; cases hi
  | @cons x v l xs h1 h2 ih =>
    intro i hi vi ins hv
    cases i with
    | zero =>
      show NcAt w N ({ x with ins := ins } :: l) ((ndC x v ++ xs).set 3 vi)
      have e : (ndC x v ++ xs).set 3 vi = ndC { x with ins := ins } vi ++ xs := rfl
      rw [e]
      exact .cons hv h2
    | succ i =>
      have e : (ndC x v ++ xs).set ((i + 1) * 8 + 3) vi = ndC x v ++ xs.set (i * 8 + 3) vi := by
        rw [show (i + 1) * 8 + 3 = (ndC x v).length + (i * 8 + 3) by show _ = 8 + _; omega]
        rw [List.set_append_right _ _ (by omega), Nat.add_sub_cancel_left]
      rw [e]
      exact .cons h1 (ih (by simpa using hi) hv)
/-- a node's Ins give way to others -/
theorem LsW.setIns {B b g cap n : Nat} {l : List Nd} {vT : Value} {pt : Pt} {w : World} (h : LsW B b l (.slice (some ⟨g, 0, none⟩) n cap) vT pt w) {i : Nat} (hi : i < l.length) {vi : Value} {ins : List Int} (hv : IntsN w (Nb B b (.slice (some ⟨g, 0, none⟩) n cap) vT) vi ins) :
    LsW B b (l.set i { (l[i]'hi) with ins := ins }) (.slice (some ⟨g, 0, none⟩) n cap) vT pt (w.setCell ⟨g, i * 8 + 3, none⟩ vi) ∧ Below B w (w.setCell ⟨g, i * 8 + 3, none⟩ vi) := by
  obtain ⟨xs, ho, hn⟩ := h.row
  have hgb : g ≠ b := fun e => own_neT ho h.blk (by decide) (by rw [← e]; rfl)
  have hB := own_ge ho g rfl
  refine ⟨⟨(Below.heap_setCell _ _ _ _ (Ne.symm hgb)).trans h.blk, ⟨xs.set (i * 8 + 3) vi, ?_, ?_⟩, h.hb, own_keep (N := Nb1 B b (.slice (some ⟨g, 0, none⟩) n cap)) h.nt.1 h.nt.2 ⟨by simp [World.setCell], fun k hk hN => Below.heap_setCell _ _ _ _ (fun e => hN.2.2 (by subst e; rfl))⟩, h.nt.2⟩, (Below.refl B w).setCell hB _⟩
  · obtain ⟨h1, h2⟩ := ho
    refine ⟨by rw [List.length_set, List.length_set]; exact h1, Or.inr ?_⟩
    rcases h2 with ⟨h2, _⟩ | ⟨g', cap', cur, hv', hg, hh, hc, hm, hz, ht⟩
    · cases h2
    · injection hv' with e1 e2 e3
      injection e1 with e1
      injection e1 with e1
      subst e1 e2 e3
      have hk : i * 8 + 3 < cur.size := by rw [hz]; omega
      refine ⟨g, cap, cur.set (i * 8 + 3) vi hk, by rw [List.length_set], hg, ?_, by rw [List.length_set]; exact hc, hm, by rw [Array.size_set]; exact hz, by rw [List.length_set, take_setA, ht]⟩
      simp only [World.setCell]
      rw [Array.getElem?_modify, if_pos rfl, hh]
      simp [Array.setIfInBounds, hk]
  · have hK : KeepN (Nb B b (.slice (some ⟨g, 0, none⟩) n cap) vT) w (w.setCell ⟨g, i * 8 + 3, none⟩ vi) := ⟨by simp [World.setCell], fun k hk hN => Below.heap_setCell _ _ _ _ (fun e => hN.1.2.2 (by subst e; rfl))⟩
    exact (hn.keep hK).setIns hi (hv.keep hK)
end Go.Proofs.Ytkgonnnpoldcoaa

/- The shared book's back: delays and data hang on what stands behind them. -/
namespace Go.Proofs.Ytkgonnnpoldcoaa
open Go.RowKit Lg Nl Go.Maps
set_option linter.unusedVariables false
set_option linter.unusedSimpArgs false

/-- gates: five numbers each, in a block ahead of B -/
def GsAt (w : World) (B : Nat) (v : Value) (m : Nat) (F : Nat → Nat → Int) : Prop :=
  ∃ ao cap, v = .slice ao m cap ∧ (m = 0 ∨ ∃ g o, ao = some ⟨g, o, none⟩ ∧ g < B ∧ B ≤ w.heap.size ∧ ∀ j q, j < m → q < 5 → w.cell? ⟨g, o + j * 5 + q, none⟩ = some (.int .i64 (F j q)))
theorem GsAt.below {w w' : World} {B m : Nat} {v : Value} {F : Nat → Nat → Int} (h : GsAt w B v m F) (hb : Below B w w') : GsAt w' B v m F := by
  obtain ⟨ao, cap, rfl, h⟩ := h
  refine ⟨ao, cap, rfl, ?_⟩
  rcases h with h | ⟨g, o, rfl, hg, hB, h⟩
  · exact Or.inl h
  · exact Or.inr ⟨g, o, rfl, hg, Nat.le_trans hB hb.size, fun j q hj hq => by rw [World.cell?_of_block (w := w) (a := ⟨g, o + j * 5 + q, none⟩) (hb.block g hg)]; exact h j q hj hq⟩
theorem Mk.delay {l : List Nd} (h : Mk l) {i t : Nat} (hi : i < l.length) (ht : t < l.length) (hk : (l[i]'hi).k = 8) (hw : wdAt l (t : Int) = (l[i]'hi).wd) : Mk (l.set i { (l[i]'hi) with ins := [(t : Int)] }) := by
  have a := h.ok i hi
  rw [ndAt_eq hi] at a
  refine h.set hi (by rw [ndAt_eq hi]) (by rw [ndAt_eq hi]) ⟨a.w, a.z, by simp [inB]; omega, ?_, a.ki, ?_⟩
  · have b := a.n
    unfold nodeB at b ⊢
    simp only [hk] at b ⊢
    simp at b ⊢
    refine ⟨by simp [wsOf], by simp [wsOf, wn, hw], b.2.2⟩
  · intro y hy
    unfold hangL at hy
    simp only [hk] at hy
    simp at hy
theorem Mk.flip {l : List Nd} (h : Mk l) {i t : Nat} (hi : i < l.length) (ht : t < l.length) (hk : (l[i]'hi).k = 7) (hw : wdAt l (t : Int) = (l[i]'hi).wd) : ∃ c d, (l[i]'hi).ins = [c, d] ∧ Mk (l.set i { (l[i]'hi) with ins := [c, (t : Int)] }) := by
  have a := h.ok i hi
  rw [ndAt_eq hi] at a
  have hl2 := node_flip hk a.n
  rw [wsOf_len] at hl2
  obtain ⟨c, d, hcd⟩ : ∃ c d, (l[i]'hi).ins = [c, d] := by
    rcases hq : (l[i]'hi).ins with _ | ⟨c, _ | ⟨d, _ | ⟨e, r⟩⟩⟩
    · rw [hq] at hl2; simp at hl2
    · rw [hq] at hl2; simp at hl2
    · exact ⟨c, d, rfl⟩
    · rw [hq] at hl2; simp at hl2
  refine ⟨c, d, hcd, ?_⟩
  have hci : inB l.length c = true := by have := a.ii; rw [hcd] at this; simp at this; exact this.1
  refine h.set hi (by rw [ndAt_eq hi]) (by rw [ndAt_eq hi]) ⟨a.w, a.z, by simp [hci]; simp [inB]; omega, ?_, a.ki, ?_⟩
  · unfold nodeB
    simp only [hk]
    simp
    refine ⟨by simp [wsOf], by simp [wsOf, wn, hw]⟩
  · intro y hy
    refine a.h y ?_
    unfold hangL at hy ⊢
    simp only [hk] at hy ⊢
    rw [hcd]
    simpa using hy
end Go.Proofs.Ytkgonnnpoldcoaa
