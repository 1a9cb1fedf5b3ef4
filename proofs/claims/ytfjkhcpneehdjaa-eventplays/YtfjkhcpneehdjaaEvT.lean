/- Events put by their numbers: what EventOrders puts, and what is left of it. -/
import Derived.Test.YtfjkhcpneehdjaaEvP
import Derived.Test.YtfjkhcpneehdjaaEvO
import Derived.Deep.OwnRows
namespace Go.Proofs.Ytfjkhcpneehdjaa
open Go.RowKit Qu Go.Maps
set_option linter.unusedVariables false
set_option linter.unusedSimpArgs false
set_option maxRecDepth 100000

theorem wr63 (n : Int) (h₀ : 0 ≤ n) (h₁ : n < 2 ^ 63) : IntKind.i64.wrap n = n := by rw [IntKind.wrap_i64]; omega
theorem maskK (n : Int) (W M : Nat) (hW : W ≤ 62) (hM : M = 2 ^ W - 1) : bits .and .i64 n (M : Int) = n % ((2 ^ W : Nat) : Int) := by
  have hp : 0 < 2 ^ W := Nat.two_pow_pos W
  have hle : 2 ^ W ≤ 2 ^ 62 := Nat.pow_le_pow_right (by decide) hW
  have hm : (BitVec.ofInt 64 (M : Int)).toNat = 2 ^ W - 1 := by
    rw [BitVec.ofInt_natCast, BitVec.toNat_ofNat, hM]; exact Nat.mod_eq_of_lt (by omega)
  have key : (BitVec.ofInt 64 n &&& BitVec.ofInt 64 (M : Int)).toNat = (n % ((2 ^ 64 : Nat) : Int)).toNat % 2 ^ W := by
    rw [BitVec.toNat_and, BitVec.toNat_ofInt, hm, Nat.and_two_pow_sub_one_eq_mod]
  show IntKind.i64.wrap ((BitVec.ofInt 64 n &&& BitVec.ofInt 64 (M : Int)).toNat : Nat) = _
  have hlt : (n % ((2 ^ 64 : Nat) : Int)).toNat % 2 ^ W < 2 ^ W := Nat.mod_lt _ hp
  rw [key, wr63 _ (by omega) (by omega), Int.natCast_emod, Int.toNat_of_nonneg (Int.emod_nonneg _ (by decide))]
  exact Int.emod_emod_of_dvd n (Int.natCast_dvd_natCast.2 (Nat.pow_dvd_pow 2 (by omega)))
theorem and65535 (n : Int) : bits .and .i64 n 65535 = n % 65536 := maskK n 16 65535 (by decide) (by decide)
theorem and4095 (n : Int) : bits .and .i64 n 4095 = n % 4096 := maskK n 12 4095 (by decide) (by decide)
theorem and255 (n : Int) : bits .and .i64 n 255 = n % 256 := maskK n 8 255 (by decide) (by decide)
theorem and127 (n : Int) : bits .and .i64 n 127 = n % 128 := maskK n 7 127 (by decide) (by decide)
theorem and3 (n : Int) : bits .and .i64 n 3 = n % 4 := maskK n 2 3 (by decide) (by decide)
theorem and1 (n : Int) : bits .and .i64 n 1 = n % 2 := maskK n 1 1 (by decide) (by decide)
/-- what is still there of events that were put by their numbers -/
structure Rem (mk : Nat → Ev) (n : Nat) (l : List Ev) (js : List Nat) : Prop where
  p : l.Perm (js.map mk)
  nd : js.Nodup
  lt : ∀ j ∈ js, j < n
theorem Rem.len {mk : Nat → Ev} {n : Nat} {l : List Ev} {js : List Nat} (h : Rem mk n l js) : l.length = js.length := by rw [h.p.length_eq, List.length_map]
theorem Rem.zero (mk : Nat → Ev) : Rem mk 0 [] [] := ⟨List.Perm.refl _, List.nodup_nil, fun j h => by cases h⟩
theorem Rem.put {mk : Nat → Ev} {n : Nat} {l l' : List Ev} (h : Rem mk n l (List.range n)) (hp : l'.Perm (mk n :: l)) : Rem mk (n + 1) l' (List.range (n + 1)) := by
  refine ⟨?_, List.nodup_range, fun j h => List.mem_range.1 h⟩
  rw [List.range_succ, List.map_append]
  exact hp.trans ((List.Perm.cons _ h.p).trans (List.perm_append_comm (l₁ := [mk n])))
theorem Rem.take {mk : Nat → Ev} {n : Nat} {l l' : List Ev} {js : List Nat} {x : Ev} (h : Rem mk n l js) (hx : l.Perm (x :: l')) : ∃ j, j ∈ js ∧ x = mk j ∧ Rem mk n l' (js.erase j) := by
  have hm : x ∈ js.map mk := h.p.mem_iff.1 (hx.mem_iff.2 (by simp))
  obtain ⟨j, hj, rfl⟩ := List.mem_map.1 hm
  refine ⟨j, hj, rfl, ?_, h.nd.erase j, fun i hi => h.lt i (List.mem_of_mem_erase hi)⟩
  have a : (mk j :: l').Perm (mk j :: (js.erase j).map mk) := hx.symm.trans (h.p.trans ((List.perm_cons_erase hj).map mk))
  exact (List.perm_cons _).1 a
theorem Rem.hasK {mk : Nat → Ev} {n : Nat} {l : List Ev} {js : List Nat} {fr sq : Int} (h : Rem mk n l js) (hk : ∀ j ∈ js, ¬ ((mk j).fr = fr ∧ (mk j).sq = sq)) : hasK l fr sq = false := by
  rw [hasK_perm h.p]
  exact hasK_no.2 fun x hx => by
    obtain ⟨j, hj, rfl⟩ := List.mem_map.1 hx
    exact hk j hj
theorem not_mem_erase {js : List Nat} (h : js.Nodup) (j q : Nat) : q ∉ js.erase j ↔ q = j ∨ q ∉ js := by
  rw [h.mem_erase_iff]
  constructor
  · intro k
    by_cases e : q = j
    · exact Or.inl e
    · exact Or.inr fun m => k ⟨e, m⟩
  · rintro (e | e) ⟨a, b⟩
    · exact a e
    · exact e b
/-- a queue's call, seen from the world where a law began: all blocks below B are as they were -/
structure Wd (B q : Nat) (lim : Int) (w0 W : World) (v : Value) (l : List Ev) : Prop where
  q : Qh B q lim W v l
  b : Below B w0 W
theorem put_w {B q : Nat} {lim : Int} {v : Value} {l : List Ev} {w w0 : World} {x : Ev} (h : Wd B q lim w0 w v l) (hB0 : B ≤ w0.heap.size) (h1 : 0 ≤ x.t) (h2 : x.t ≤ 4611686018427387903) (h3 : x.an = false) (h4 : hasK l x.fr x.sq = false) (h5 : (l.length : Int) < lim) (h6 : lim ≤ 4096) :
    Calls Try.prog 15 #[.pointer (some ⟨q, 0, none⟩), .agg #[.int .i64 x.t, .int .i64 x.nd, .string x.v, .int .i64 x.fr, .int .i64 x.sq, .bool x.an]] w fun e w' => e = .returned (.int .i64 0) ∧ ∃ v' l', Hid (Wd B q lim w0 w' v' l') ∧ Hid (l'.Perm (x :: l)) ∧ Hid (But2 q v.ownBlock w w') ∧ Hid (Mv v v' w) := by
  have hs := h.b.size
  refine (put_ok B q lim v l x w h.q h1 h3 (by omega) h4 h2 h5 (by omega)).mono ?_
  rintro e w' ⟨rfl, v', l', a, b, c, d⟩
  exact ⟨rfl, v', l', ⟨a.out, h.b.trans (c.out.belowB h.q.b.ge h.q.own_ge (by omega))⟩, b, c, d⟩
theorem take_w {B q m : Nat} {lim : Int} {v : Value} {l : List Ev} {w w0 : World} (h : Wd B q lim w0 w v l) (hB0 : B ≤ w0.heap.size) (hm : l.length = m + 1) (hs : m ≤ 4096) :
    Calls Try.prog 16 #[.pointer (some ⟨q, 0, none⟩)] w fun e w' => e = .returned (.tuple #[.agg #[.int .i64 (g l 0).t, .int .i64 (g l 0).nd, .string (g l 0).v, .int .i64 (g l 0).fr, .int .i64 (g l 0).sq, .bool (g l 0).an], .bool true]) ∧ ∃ v' l', Hid (Wd B q lim w0 w' v' l') ∧ Hid (l.Perm (g l 0 :: l')) ∧ Hid (But2 q v.ownBlock w w') ∧ Hid (Mv v v' w) := by
  have hz := h.b.size
  refine (take_c B q m lim v l w h.q hm hs (by omega)).mono ?_
  rintro e w' ⟨rfl, v', l', a, b, c, d⟩
  exact ⟨rfl, v', l', ⟨a.out, h.b.trans (c.out.belowB h.q.b.ge h.q.own_ge (by omega))⟩, b, c, d⟩
theorem Wd.up {B q : Nat} {lim : Int} {w0 W W' : World} {v : Value} {l : List Ev} (h : Wd B q lim w0 W v l) (hB : B ≤ w0.heap.size) (hb : Below W.heap.size W W') : Wd B q lim w0 W' v l := ⟨h.q.below hb, belN h.b hB hb⟩
/-- blocks beside a queue: one other has turned -/
theorem Wd.but {B q T : Nat} {lim : Int} {w0 W W' : World} {v : Value} {l : List Ev} (h : Wd B q lim w0 W v l) (hB : B ≤ w0.heap.size) (hb : But T W W') (hT : B ≤ T) (hq : q ≠ T) (hv : v.ownBlock ≠ some T) : Wd B q lim w0 W' v l := by
  have hz := h.b.size
  refine ⟨⟨⟨(hb.block q (hLt h.q.b.blk) hq).trans h.q.b.blk, own_at h.q.b.row fun k hk => hb.block k (World.ownsRow.lt h.q.b.row k hk).2 (fun e => by subst e; exact hv hk), h.q.b.ge⟩, h.q.h⟩, h.b.trans ⟨hb.os, hb.tape, hb.output, hb.size, fun k hk => hb.block k (by omega) (by omega)⟩⟩
theorem IntsAt.get {w : World} {v : Value} {l : List Int} (h : IntsAt w v l) : ∃ ao cap, v = .slice ao l.length cap := by
  obtain ⟨ao, cap, e, _⟩ := h; exact ⟨ao, cap, e⟩
theorem IntsAt.some_ {w : World} {v : Value} {l : List Int} (h : IntsAt w v l) (hl : 0 < l.length) : ∃ g o cap, v = .slice (some ⟨g, o, none⟩) l.length cap ∧ g < w.heap.size ∧ ∀ i, i < l.length → w.cell? ⟨g, o + i, none⟩ = some (.int .i64 (l.getD i 0)) := by
  obtain ⟨ao, cap, rfl, _, h⟩ := h
  rcases h with rfl | ⟨g', o', rfl, hg, h⟩
  · cases hl
  · exact ⟨g', o', cap, rfl, hg, fun i hi => by rw [h i hi, List.getD_eq_getElem?_getD, List.getElem?_eq_getElem hi]; rfl⟩
end Go.Proofs.Ytfjkhcpneehdjaa
