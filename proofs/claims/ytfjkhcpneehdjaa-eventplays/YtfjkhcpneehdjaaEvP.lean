/- Layer 14's awake. -/
import Derived.Test.YtfjkhcpneehdjaaEvN
namespace Go.Proofs.Ytfjkhcpneehdjaa
open Go.RowKit Qu Go.Maps
set_option linter.unusedVariables false
set_option linter.unusedSimpArgs false

theorem hasK_perm {l l' : List Ev} (h : l.Perm l') (fr sq : Int) : hasK l fr sq = hasK l' fr sq := by
  rw [Bool.eq_iff_iff, hasK_iff, hasK_iff]
  exact ⟨fun ⟨x, a, b⟩ => ⟨x, h.mem_iff.1 a, b⟩, fun ⟨x, a, b⟩ => ⟨x, h.mem_iff.2 a, b⟩⟩
theorem hasK_cons (x : Ev) (l : List Ev) (fr sq : Int) : hasK (x :: l) fr sq = (decide (x.fr = fr ∧ x.sq = sq) || hasK l fr sq) := rfl
theorem hp_all {l : List Ev} (h : Hp l l.length) : ∀ y ∈ l, le (g l 0) y := fun y hy => by
  obtain ⟨i, hi, rfl⟩ := List.getElem_of_mem hy
  have := h.root i hi
  rw [g_at hi] at this
  exact this
theorem g0_mem {l : List Ev} {m : Nat} (h : l.length = m + 1) : g l 0 ∈ l := g_mem (by omega)
/-- what a queue's call leaves of all else -/
theorem But2.belowB {T B : Nat} {U : Option Nat} {w w' : World} (h : But2 T U w w') (hT : B ≤ T) (hU : ∀ x, U = some x → B ≤ x) (hB : B ≤ w.heap.size) : Below B w w' :=
  ⟨h.os, h.tape, h.output, h.size, fun k hk => h.block k (by omega) (by omega) (fun e => by have := hU k e; omega)⟩
theorem Qh.own_ge {B q : Nat} {lim : Int} {W : World} {v : Value} {l : List Ev} (h : Qh B q lim W v l) : ∀ x, v.ownBlock = some x → B ≤ x := fun x e => (World.ownsRow.lt h.b.row x e).1
theorem belB {B : Nat} {a b c : World} (h : Below B a b) (k : Below B b c) : Below B a c := h.trans k
theorem belN {B : Nat} {a b c : World} (h : Below B a b) (hB : B ≤ a.heap.size) (k : Below b.heap.size b c) : Below B a c := ⟨k.os.trans h.os, k.tape.trans h.tape, k.output.trans h.output, Nat.le_trans h.size k.size, fun i hi => (k.block i (by have := h.size; omega)).trans (h.block i hi)⟩
/-- an event that may be put is put -/
theorem put_in {B q : Nat} {lim : Int} {v : Value} {l : List Ev} {w w0 : World} {x : Ev} (h : Qh B q lim w v l) (hw : Below B w0 w) (hB0 : B ≤ w0.heap.size) (h1 : 0 ≤ x.t) (h2 : x.t ≤ 4611686018427387903) (h3 : x.an = false) (h4 : hasK l x.fr x.sq = false) (h5 : (l.length : Int) < lim) (h6 : lim ≤ 4096) :
    Calls Try.prog 15 #[.pointer (some ⟨q, 0, none⟩), .agg #[.int .i64 x.t, .int .i64 x.nd, .string x.v, .int .i64 x.fr, .int .i64 x.sq, .bool x.an]] w fun e w' => e = .returned (.int .i64 0) ∧ ∃ v' l', Hid (Qh B q lim w' v' l') ∧ Hid (l'.Perm (x :: l)) ∧ Hid (Below B w0 w') := by
  have hs := hw.size
  refine (put_ok B q lim v l x w h h1 h3 (by omega) h4 h2 h5 (by omega)).mono ?_
  rintro e w' ⟨rfl, v', l', a, b, c, d⟩
  exact ⟨rfl, v', l', a, b, hw.trans (c.out.belowB h.b.ge h.own_ge (by omega))⟩
theorem take_in {B q m : Nat} {lim : Int} {v : Value} {l : List Ev} {w w0 : World} (h : Qh B q lim w v l) (hw : Below B w0 w) (hB0 : B ≤ w0.heap.size) (hm : l.length = m + 1) (hs : m ≤ 4096) :
    Calls Try.prog 16 #[.pointer (some ⟨q, 0, none⟩)] w fun e w' => e = .returned (.tuple #[.agg #[.int .i64 (g l 0).t, .int .i64 (g l 0).nd, .string (g l 0).v, .int .i64 (g l 0).fr, .int .i64 (g l 0).sq, .bool (g l 0).an], .bool true]) ∧ ∃ v' l', Hid (Qh B q lim w' v' l') ∧ Hid (l.Perm (g l 0 :: l')) ∧ Hid (Below B w0 w') := by
  have hz := hw.size
  refine (take_c B q m lim v l w h hm hs (by omega)).mono ?_
  rintro e w' ⟨rfl, v', l', a, b, c, d⟩
  exact ⟨rfl, v', l', a, b, hw.trans (c.out.belowB h.b.ge h.own_ge (by omega))⟩
def aw1 : Ev := ⟨5, 0, ⟨#[]⟩, 0, 1, false⟩
def aw2 : Ev := ⟨3, 0, ⟨#[]⟩, 0, 2, false⟩
def aw3 : Ev := ⟨4, 0, ⟨#[]⟩, 0, 3, false⟩
theorem aw_min {l2 l1 : List Ev} (h : Hp l2 l2.length) (h2 : l2.Perm (aw2 :: l1)) (h1 : l1.Perm (aw1 :: [])) : g l2 0 = aw2 ∧ l2.length = 2 := by
  have hl : l2.length = 2 := by rw [h2.length_eq, List.length_cons, h1.length_eq]; rfl
  refine ⟨?_, hl⟩
  have hm := g0_mem (l := l2) (m := 1) hl
  rw [h2.mem_iff, List.mem_cons, h1.mem_iff] at hm
  rcases hm with e | e
  · exact e
  · simp at e
    have := hp_all h aw2 (h2.mem_iff.2 (by simp))
    rw [e] at this
    exact absurd this (by unfold le; rw [Decidable.not_not]; decide)
set_option maxHeartbeats 4000000 in
theorem awake14 (w : World) : Calls Try.prog 10 #[] w fun e w' => e = .returned (.bool true) ∧ Below w.heap.size w w' := by
  have HQ0 : Hid (Qh w.heap.size w.heap.size 2 (w.alloc (.cells #[.pointer (some ⟨w.heap.size, 0, none⟩), .int .i64 2, .slice none 0 0] 51)) (.slice none 0 0) []) := Qh.start _ 2 w (Nat.le_refl _)
  have HB0 : Hid (Below w.heap.size w (w.alloc (.cells #[.pointer (some ⟨w.heap.size, 0, none⟩), .int .i64 2, .slice none 0 0] 51))) := belA (Below.refl _ _) _
  have HN : Hid (Calls Try.prog 8 #[.int .i64 2] w fun e w' => e = .returned (.tuple #[.pointer (some ⟨w.heap.size, 0, none⟩), .int .i64 0]) ∧ w' = w.alloc (.cells #[.pointer (some ⟨w.heap.size, 0, none⟩), .int .i64 2, .slice none 0 0] 51)) := new_c 2 w (by omega) (by omega)
  obtain ⟨W0, hW0⟩ : ∃ W0, W0 = w.alloc (.cells #[.pointer (some ⟨w.heap.size, 0, none⟩), .int .i64 2, .slice none 0 0] 51) := ⟨_, rfl⟩
  rw [← hW0] at HQ0 HB0 HN
  clear hW0
  have HBs : Hid (w.heap.size ≤ w.heap.size) := Nat.le_refl _
  obtain ⟨q, hq⟩ : ∃ q, q = w.heap.size := ⟨_, rfl⟩
  have HQr : Hid (q = w.heap.size) := hq
  rw [← hq] at HN
  rw [show Qh w.heap.size w.heap.size 2 W0 (.slice none 0 0) [] = Qh w.heap.size q 2 W0 (.slice none 0 0) [] by rw [hq]] at HQ0
  clear hq
  have HP1 : Hid (Calls Try.prog 15 #[.pointer (some ⟨q, 0, none⟩), .agg #[.int .i64 5, .int .i64 0, .string ⟨#[]⟩, .int .i64 0, .int .i64 1, .bool false]] W0 fun e w' => e = .returned (.int .i64 0) ∧ ∃ v' l', Hid (Qh w.heap.size q 2 w' v' l') ∧ Hid (l'.Perm (aw1 :: [])) ∧ Hid (Below w.heap.size w w')) := put_in (x := aw1) HQ0.out HB0.out (Nat.le_refl _) (by decide) (by decide) rfl rfl (by decide) (by decide)
  have HP2 : Hid (∀ v1 l1 w1, Qh w.heap.size q 2 w1 v1 l1 → l1.Perm (aw1 :: []) → Below w.heap.size w w1 → Calls Try.prog 15 #[.pointer (some ⟨q, 0, none⟩), .agg #[.int .i64 3, .int .i64 0, .string ⟨#[]⟩, .int .i64 0, .int .i64 2, .bool false]] w1 fun e w' => e = .returned (.int .i64 0) ∧ ∃ v' l', Hid (Qh w.heap.size q 2 w' v' l') ∧ Hid (l'.Perm (aw2 :: l1)) ∧ Hid (Below w.heap.size w w')) := fun v1 l1 w1 h1 p1 b1 => put_in (x := aw2) h1 b1 (Nat.le_refl _) (by decide) (by decide) rfl (by rw [hasK_perm p1]; rfl) (by rw [p1.length_eq]; decide) (by decide)
  have HP3 : Hid (∀ v2 l2 l1 w2, Qh w.heap.size q 2 w2 v2 l2 → l2.Perm (aw2 :: l1) → l1.Perm (aw1 :: []) → Calls Try.prog 15 #[.pointer (some ⟨q, 0, none⟩), .agg #[.int .i64 4, .int .i64 0, .string ⟨#[]⟩, .int .i64 0, .int .i64 3, .bool false]] w2 fun e w' => e = .returned (.int .i64 141) ∧ Below w2.heap.size w2 w') := fun v2 l2 l1 w2 h2 p2 p1 => put_full w.heap.size q 2 v2 l2 aw3 w2 h2 (by decide) rfl (by rw [(aw_min h2.h p2 p1).2]; omega) (by rw [hasK_perm p2, hasK_cons, hasK_perm p1]; rfl) (by decide) (by rw [(aw_min h2.h p2 p1).2]; decide)
  have HT : Hid (∀ v2 l2 l1 w3, Qh w.heap.size q 2 w3 v2 l2 → l2.Perm (aw2 :: l1) → l1.Perm (aw1 :: []) → Below w.heap.size w w3 → Calls Try.prog 16 #[.pointer (some ⟨q, 0, none⟩)] w3 fun e w' => e = .returned (.tuple #[.agg #[.int .i64 3, .int .i64 0, .string ⟨#[]⟩, .int .i64 0, .int .i64 2, .bool false], .bool true]) ∧ ∃ v' l', Hid (Qh w.heap.size q 2 w' v' l') ∧ Hid (l'.length = 1) ∧ Hid (Below w.heap.size w w')) := fun v2 l2 l1 w3 h2 p2 p1 b => by
    have k := take_in h2 b (Nat.le_refl _) (m := 1) (aw_min h2.h p2 p1).2 (by omega)
    rw [(aw_min h2.h p2 p1).1] at k
    refine k.mono ?_
    rintro e w' ⟨rfl, v', l', a, b, c⟩
    refine ⟨rfl, v', l', a, ?_, c⟩
    have := b.out.length_eq
    rw [(aw_min h2.h p2 p1).2] at this
    simp at this
    show l'.length = 1; omega
  go_enter Try.func10, Try.ntmps10
  go_wp2_with (first
    | (go_at_call 8; refine HN.out.mono ?_; rintro e w' ⟨rfl, hw⟩; rw [hw]; clear hw)
    | (have hg := r5; go_at_call 13; refine (len_c _ _ _ _ _ _ (r5.out.below (belA (Below.refl _ _) _)).b).mono ?_; rintro e w' ⟨rfl, hw⟩; rw [hw, s5.out]; clear hw)
    | (go_at_call 16; refine (HT.out v2 l2 l1 _ (r2.out.below hb3) s2.out s1.out (belN b2.out (Nat.le_refl _) hb3)).mono ?_; rintro e w5 ⟨rfl, v5, l5, r5, s5, b5⟩)
    | (have hg := r2; go_at_call 15; refine (HP3.out v2 l2 l1 _ r2.out s2.out s1.out).mono ?_; rintro e w3 ⟨rfl, hb3⟩)
    | (have hg := r1; go_at_call 15; refine (HP2.out v1 l1 _ r1.out s1.out b1.out).mono ?_; rintro e w2 ⟨rfl, v2, l2, r2, s2, b2⟩)
    | (go_at_call 15; refine HP1.out.mono ?_; rintro e w1 ⟨rfl, v1, l1, r1, s1, b1⟩))
  go_ret
  exact ⟨rfl, belN b5.out (Nat.le_refl _) (belA (Below.refl _ _) _)⟩
end Go.Proofs.Ytfjkhcpneehdjaa
