/- PartChains. -/
import Derived.Test.YtkgonnnpoldcoaaRQ
import Derived.Test.YtkgonnnpoldcoaaRX
import Derived.Test.YtkgonnnpoldcoaaGKh
namespace Go.Proofs.Ytkgonnnpoldcoaa
open Go.RowKit Lg Nl Go.Maps
set_option linter.unusedVariables false
set_option linter.unusedSimpArgs false
set_option maxRecDepth 100000

theorem and63' (n : Int) : bits .and .i64 n 63 = n % 64 := maskK n 6 63 (by decide) (by decide)
theorem and255' (n : Int) : bits .and .i64 n 255 = n % 256 := maskK n 8 255 (by decide) (by decide)
theorem Cw.ins {B X T n : Nat} {l : List Nd} {v : Value} {W : World} {xs : List Value} (h : Cw B X T l v W) (hxs : W.ownsRow B 47 8 v n xs) (z : Int) (o : Obj) : IntsN ((W.alloc (.cells #[.int .i64 z] 3)).alloc o) (fun g => g ≠ X ∧ v.ownBlock ≠ some g) (.slice (some ⟨W.heap.size, 0, none⟩) 1 1) [z] := by
  have hX := hLt h.blk
  refine ⟨_, 1, rfl, Nat.le_refl _, Or.inr ⟨W.heap.size, 0, rfl, ⟨by omega, fun e => by have := (World.ownsRow.lt hxs _ e).2; omega⟩, by simp; omega, fun i hi => ?_⟩⟩
  have h0 : i = 0 := by simp at hi; exact hi
  subst h0
  rw [Lib.cell_of_heap ((alOld (by simp)).trans (alAt rfl))]; rfl
theorem chRun {n : Nat} {t k : Int} (hn : n < 60) (h1 : 1 ≤ t) (h2 : t ≤ 256) (k1 : 1 ≤ k) (k2 : k ≤ 64) {vN vT : Value} {W : World} (hN : NdsAt W vN (chL n t)) (hT : IntsAt W vT [0]) :
    Calls Try.prog 9 #[.agg #[vN, vT, .int .i64 1], .int .i64 k] W fun e w' => ∃ (c O M : Nat) (of : Nat → Int), e = .returned (.tuple #[.agg #[.slice (some ⟨O, 0, none⟩) (n + 1) (n + 1), .int .i64 (c : Int), .slice (some ⟨M, 0, none⟩) c c], .int .i64 0]) ∧ (c : Int) ≤ k ∧ 1 ≤ c ∧ c ≤ n + 1 ∧ Hid (IntsAt w' (.slice (some ⟨O, 0, none⟩) (n + 1) (n + 1)) (rowL (n + 1) of)) ∧ Hid (RowsAt w' (.slice (some ⟨M, 0, none⟩) c c) (aheadL (chL n t) (rowL (n + 1) of) c)) ∧ Hid (PtsOk (chL n t) (rowL (n + 1) of) (c : Int) (aheadL (chL n t) (rowL (n + 1) of) c)) ∧ Below W.heap.size W w' := by
  have hm := ch_may hn h1 h2
  refine (pRun_c0 (chL n t) [0] k vN vT 1 W hN hT (ch_fits hn)).mono ?_
  rintro e w' ⟨hP, hb⟩
  rw [hm] at hP
  have hl := chL_len n t
  rcases hP with ⟨h, _⟩ | ⟨_, ⟨p, hp⟩, _⟩ | ⟨_, _, c, O, M, R, of, rfl, hc, hw, hk⟩
  · rcases h with h | h | h | h
    · omega
    · omega
    · omega
    · cases h
  · exact (lev_ring (may_ok hm) (ch_lev n t) hp).elim
  · rw [hl] at hw hk ⊢
    have h3 := hk.out.le
    have h4 := hk.out.lo
    exact ⟨c, O, M, of, rfl, hc, by omega, by omega, hw.out.ints, hw.out.rows, hk, hb⟩
theorem chRow0 {W1 : World} {n i : Nat} {t : Int} {R : Nat} (hR : W1.heap.size = R) (hi : i = 0) (o : Obj) : ((W1.alloc (.cells (madeCells #[.int .i64 0] (n + 1)) 3)).alloc o).rowIs R 3 (n + 1) (fun k => .int .i64 (if k + 1 = i then t else 0)) ∧ Below W1.heap.size W1 ((W1.alloc (.cells (madeCells #[.int .i64 0] (n + 1)) 3)).alloc o) := by
  subst hR hi
  exact ⟨World.rowIs.alloc ((World.rowIs_made W1 (.int .i64 0) (n + 1) 3).congr (fun k _ => by simp)) _, belA (belA (Below.refl _ _) _) _⟩
theorem chRow1' {W1 : World} {n i j : Nat} {t : Int} {R : Nat} (hR : W1.heap.size = R) (hi : j + 1 = i) (o : Obj) : (((W1.alloc (.cells (madeCells #[.int .i64 0] (n + 1)) 3)).setCell ⟨R, j, none⟩ (.int .i64 t)).alloc o).rowIs R 3 (n + 1) (fun k => .int .i64 (if k + 1 = i then t else 0)) ∧ Below W1.heap.size W1 (((W1.alloc (.cells (madeCells #[.int .i64 0] (n + 1)) 3)).setCell ⟨R, j, none⟩ (.int .i64 t)).alloc o) := by
  subst hR hi
  refine ⟨World.rowIs.alloc (((World.rowIs_made W1 (.int .i64 0) (n + 1) 3).set j _).congr (fun k _ => ?_)) _, belA ((belA (Below.refl _ _) _).setCell (p := ⟨W1.heap.size, j, none⟩) (Nat.le_refl _) _) _⟩
  by_cases e : k = j
  · subst e; simp
  · simp [e]
theorem chSet (W1 : World) (c : Array Value) (j : Nat) (v : Value) : (W1.alloc (.cells c 3)).setCell ⟨W1.heap.size, j, none⟩ v = W1.alloc (.cells (c.setIfInBounds j v) 3) := by go_simp
theorem chRow1 {W1 : World} {n i j : Nat} {t : Int} {R : Nat} (hR : W1.heap.size = R) (hi : j + 1 = i) (o : Obj) : ((W1.alloc (.cells ((madeCells #[.int .i64 0] (n + 1)).setIfInBounds j (.int .i64 t)) 3)).alloc o).rowIs R 3 (n + 1) (fun k => .int .i64 (if k + 1 = i then t else 0)) ∧ Below W1.heap.size W1 ((W1.alloc (.cells ((madeCells #[.int .i64 0] (n + 1)).setIfInBounds j (.int .i64 t)) 3)).alloc o) := by
  have h := chRow1' (W1 := W1) (n := n) (t := t) hR hi o
  rw [← hR, chSet] at h
  rw [← hR]
  exact h
set_option maxHeartbeats 4000000 in
theorem PartChains_c (mn tm ps : Int) (w : World) :
    Calls Try.prog 7 #[.int .i64 mn, .int .i64 tm, .int .i64 ps] w fun e w' => e = .returned (.bool true) ∧ Below w.heap.size w w' := by
  have a63 := and63'
  have a255 := and255'
  have s0 : 0 ≤ mn % 64 := Int.emod_nonneg _ (by decide)
  have s1 : mn % 64 < 64 := Int.emod_lt_of_pos _ (by decide)
  have s2 : 0 ≤ ps % 64 := Int.emod_nonneg _ (by decide)
  have s3 : ps % 64 < 64 := Int.emod_lt_of_pos _ (by decide)
  have s4 : 0 ≤ tm % 256 := Int.emod_nonneg _ (by decide)
  have s5 : tm % 256 < 256 := Int.emod_lt_of_pos _ (by decide)
  obtain ⟨n, hn, hn60⟩ : ∃ n : Nat, mn % 64 % 60 = (n : Int) ∧ n < 60 := ⟨(mn % 64 % 60).toNat, by omega, by omega⟩
  obtain ⟨t, ht, ht1, ht2⟩ : ∃ t : Int, 1 + tm % 256 = t ∧ 1 ≤ t ∧ t ≤ 256 := ⟨_, rfl, by omega, by omega⟩
  obtain ⟨k, hk, hk1, hk2⟩ : ∃ k : Int, 1 + ps % 64 = k ∧ 1 ≤ k ∧ k ≤ 64 := ⟨_, rfl, by omega, by omega⟩
  go_enter Try.func7, Try.ntmps7
  go_wp2_with fail
  rw [hn]
  have HC0 : Hid (Cw w.heap.size (w.heap.size + 1 + 1) (w.heap.size + 1) (chL 0 t) (.slice (some ⟨w.heap.size, 0, none⟩) (0 + 1) 1) (((w.alloc (.cells #[.int .i64 2, .int .i64 0, .int .i64 1, .slice none 0 0, .string ⟨#[]⟩, .int .i64 0, .int .i64 0, .int .i64 0] 47)).alloc (.cells #[.int .i64 0] 3)).alloc (.cells #[.slice (some ⟨w.heap.size, 0, none⟩) 1 1, .slice (some ⟨w.heap.size + 1, 0, none⟩) 1 1, .int .i64 1] 26))) := Cw.start
  have HB0 : Hid (Below w.heap.size w (((w.alloc (.cells #[.int .i64 2, .int .i64 0, .int .i64 1, .slice none 0 0, .string ⟨#[]⟩, .int .i64 0, .int .i64 0, .int .i64 0] 47)).alloc (.cells #[.int .i64 0] 3)).alloc (.cells #[.slice (some ⟨w.heap.size, 0, none⟩) 1 1, .slice (some ⟨w.heap.size + 1, 0, none⟩) 1 1, .int .i64 1] 26))) := belA (belA (belA (Below.refl _ _) _) _) _
  generalize ((w.alloc (.cells #[.int .i64 2, .int .i64 0, .int .i64 1, .slice none 0 0, .string ⟨#[]⟩, .int .i64 0, .int .i64 0, .int .i64 0] 47)).alloc (.cells #[.int .i64 0] 3)).alloc (.cells #[.slice (some ⟨w.heap.size, 0, none⟩) 1 1, .slice (some ⟨w.heap.size + 1, 0, none⟩) 1 1, .int .i64 1] 26) = W0 at HC0 HB0 ⊢
  obtain ⟨X, hX⟩ : ∃ X, X = w.heap.size + 1 + 1 := ⟨_, rfl⟩
  have HXw : Hid (w.heap.size ≤ X) := by show w.heap.size ≤ X; omega
  rw [← hX] at HC0 ⊢
  clear hX
  generalize w.heap.size + 1 = T at HC0
  go_loopw [10] (fun s10 W => ∃ (i : Nat) (ao : Option Addr) (cap : Nat), i ≤ n ∧ s10 = .int .i64 i ∧ Hid (Cw w.heap.size X T (chL i t) (.slice ao (i + 1) cap) W) ∧ Hid (Below w.heap.size w W)) (fun s10 W => n - (intOf s10).toNat)
  case atStart => exact ⟨0, _, _, Nat.zero_le _, rfl, HC0.out, HB0.out⟩
  case round =>
    clear HC0 HB0
    obtain ⟨i, ao, cap, hi, rfl, HC, HB⟩ := hrel
    obtain ⟨xs, hox, hnx⟩ := HC.out.row
    rw [chL_len] at hox
    have HO : Hid (wr.ownsRow w.heap.size 47 8 (.slice ao (i + 1) cap) (i + 1) xs ∧ NcAt wr (fun g => g ≠ X ∧ (Value.slice ao (i + 1) cap).ownBlock ≠ some g) (chL i t) xs) := ⟨hox, hnx⟩
    obtain ⟨p0, p1, p2⟩ := cells3n HC.out.blk
    have lX := hLt HC.out.blk
    clear hox hnx
    by_cases hlt : i < n
    · obtain ⟨i0, hi0, hz0, hz1, hz2⟩ := infoNd
      have i1 : (0 : Int) ≤ (i : Int) := by omega
      have HB2 : Hid (Below wr.heap.size wr ((wr.alloc (.cells #[.int .i64 (i : Int)] 3)).alloc (.cells (ndC (chD t (i : Int)) (.slice (some ⟨wr.heap.size, 0, none⟩) 1 1)).toArray 47))) := belA (belA (Below.refl _ _) _) _
      go_wp2_with (first
        | (at_builtin; refine wpList_append_own_at _ rfl _ _ 23 rfl w.heap.size 47 i0 _ 8 88 Try.underlying23 hi0 hz0 hz1 hz2 rfl (by decide) (.slice ao (i + 1) cap) (i + 1) xs rfl (own_below HO.out.1 HB2.out) ⟨wr.heap.size + 1, 0, none⟩ 1 1 (ndC (chD t (i : Int)) (.slice (some ⟨wr.heap.size, 0, none⟩) 1 1)) rfl rfl (chNew8 (wr.alloc (.cells #[.int .i64 (i : Int)] 3)) (chD t (i : Int)) _ _ (by simp)) (chOne8 (chD t (i : Int)) _ _ _) (by unfold maxLen; omega) (by omega) (by have := HB.out.size; simp; omega) ?_; intro v7 w7 hown7 hgrow7 hnil7 hloc7; obtain ⟨g7, cap7, rfl⟩ := own_slice1 hown7; have q7 := (HC.out.grow HB2.out HO.out.1 hgrow7).1; obtain ⟨q0, q1, q2, f0, f1, f2⟩ := cells3o q7; have lq := hLt q7))
      have hadd := HC.out.add (chL_len i t).symm HB2.out HO.out hown7 hgrow7 hloc7 (HC.out.ins HO.out.1 (i : Int) _)
      rw [← chL_succ] at hadd
      have hb7 := ((bel HB.out HB2.out).grown hgrow7 (by have := HB.out.size; have := HB2.out.size; omega) (own_ge HO.out.1)).setCell (p := ⟨X, 0, none⟩) HXw.out (.slice (some ⟨g7, 0, none⟩) (i + 1 + 1) cap7)
      go_roundw
      case rel => exact ⟨i + 1, _, cap7, hlt, by go_num, hadd, hb7⟩
      case measure => simp [intOf]; omega
    · obtain rfl : n = i := by omega
      have HN : Hid (NdsAt wr (.slice ao (n + 1) cap) (chL n t)) := own_nds (by rw [chL_len]; exact HO.out.1) HO.out.2
      have HT : Hid (IntsAt wr (.slice (some ⟨T, 0, none⟩) 1 1) [0]) := ⟨_, 1, rfl, Nat.le_refl _, Or.inr ⟨T, 0, rfl, hLt HC.out.net, fun i hi => by have h0 : i = 0 := by simp at hi; exact hi
                                                                                                                                                     subst h0; rw [Lib.cell_of_heap HC.out.net]; rfl⟩⟩
      have HX : Hid (wr.heap[X]? = some (.cells #[.slice ao (n + 1) cap, .slice (some ⟨T, 0, none⟩) 1 1, .int .i64 1] 26 (0, 0))) := HC.out.blk
      clear HO HC hi hlt
      go_wp2_with fail
      refine (chRun hn60 ht1 ht2 hk1 hk2 HN.out HT.out).mono ?_
      rintro e w3 ⟨c, O, M, of, rfl, hck, hc1, hcn, HO3, HA3, HP3, hb3⟩
      have hX3 := (hb3.block X lX).trans HX.out
      obtain ⟨a0, a1, a2⟩ := cells3n hX3
      have lX3 := hLt hX3
      have HX3 : Hid (w3.heap[X]? = some (.cells #[.slice ao (n + 1) cap, .slice (some ⟨T, 0, none⟩) 1 1, .int .i64 1] 26 (0, 0))) := hX3
      have HN3 : Hid (NdsAt w3 (.slice ao (n + 1) cap) (chL n t)) := HN.out.below hb3
      have HT3 : Hid (IntsAt w3 (.slice (some ⟨T, 0, none⟩) 1 1) [0]) := HT.out.below hb3
      have HB3 : Hid (Below w.heap.size w w3) := bel HB.out hb3
      clear HN HT HX HB hX3 hb3 p0 p1 p2 lX
      go_wp2_with fail
      refine gen_calls (fun W => W.heap[w3.heap.size]? = some (.cells #[.slice (some ⟨O, 0, none⟩) (n + 1) (n + 1), .int .i64 (c : Int), .slice (some ⟨M, 0, none⟩) c c] 30 (0, 0)) ∧ Below w3.heap.size w3 W) ⟨alAt rfl, belA (Below.refl _ _) _⟩ ?_
      rintro W4 ⟨hP4, hB4⟩
      have HP4 : Hid (W4.heap[w3.heap.size]? = some (.cells #[.slice (some ⟨O, 0, none⟩) (n + 1) (n + 1), .int .i64 (c : Int), .slice (some ⟨M, 0, none⟩) c c] 30 (0, 0))) := hP4
      have HX4 : Hid (W4.heap[X]? = some (.cells #[.slice ao (n + 1) cap, .slice (some ⟨T, 0, none⟩) 1 1, .int .i64 1] 26 (0, 0))) := (hB4.block X lX3).trans HX3.out
      have HN4 : Hid (NdsAt W4 (.slice ao (n + 1) cap) (chL n t)) := HN3.out.below hB4
      have HT4 : Hid (IntsAt W4 (.slice (some ⟨T, 0, none⟩) 1 1) [0]) := HT3.out.below hB4
      have HB4 : Hid (Below w.heap.size w W4) := bel HB3.out hB4
      have HO4 : Hid (IntsAt W4 (.slice (some ⟨O, 0, none⟩) (n + 1) (n + 1)) (rowL (n + 1) of)) := HO3.out.below hB4
      have HA4 : Hid (RowsAt W4 (.slice (some ⟨M, 0, none⟩) c c) (aheadL (chL n t) (rowL (n + 1) of) c)) := HA3.out.below hB4
      generalize w3.heap.size = P at HP4 ⊢
      clear hP4 hB4 HX3 HN3 HT3 HB3 HO3 HA3 a0 a1 a2 lX3
      refine (chRun hn60 ht1 ht2 (Int.le_refl 1) (by decide) HN4.out HT4.out).mono ?_
      rintro e w5 ⟨c5, O5, M5, of5, rfl, hc51, hc52, hc53, _, _, _, hb5⟩
      obtain rfl : c5 = 1 := by omega
      have hX5 := (hb5.block X (hLt HX4.out)).trans HX4.out
      have hP5 := (hb5.block P (hLt HP4.out)).trans HP4.out
      obtain ⟨a0, a1, a2⟩ := cells3n hX5
      obtain ⟨b0, b1, b2⟩ := cells3n hP5
      have lX5 := hLt hX5
      have lP5 := hLt hP5
      have HX5 : Hid (w5.heap[X]? = some (.cells #[.slice ao (n + 1) cap, .slice (some ⟨T, 0, none⟩) 1 1, .int .i64 1] 26 (0, 0))) := hX5
      have HP5 : Hid (w5.heap[P]? = some (.cells #[.slice (some ⟨O, 0, none⟩) (n + 1) (n + 1), .int .i64 (c : Int), .slice (some ⟨M, 0, none⟩) c c] 30 (0, 0))) := hP5
      have HN5 : Hid (NdsAt w5 (.slice ao (n + 1) cap) (chL n t)) := HN4.out.below hb5
      have HT5 : Hid (IntsAt w5 (.slice (some ⟨T, 0, none⟩) 1 1) [0]) := HT4.out.below hb5
      have HB5 : Hid (Below w.heap.size w w5) := bel HB4.out hb5
      have HO5 : Hid (IntsAt w5 (.slice (some ⟨O, 0, none⟩) (n + 1) (n + 1)) (rowL (n + 1) of)) := HO4.out.below hb5
      have HA5 : Hid (RowsAt w5 (.slice (some ⟨M, 0, none⟩) c c) (aheadL (chL n t) (rowL (n + 1) of) c)) := HA4.out.below hb5
      clear hX5 hP5 HX4 HN4 HT4 HB4 HO4 HA4 HP4 hb5 hc51 hc52 hc53
      go_wp2_with fail
      refine gen_calls (fun W => W.heap[w5.heap.size]? = some (.cells #[.slice (some ⟨O5, 0, none⟩) (n + 1) (n + 1), .int .i64 1, .slice (some ⟨M5, 0, none⟩) 1 1] 30 (0, 0)) ∧ Below w5.heap.size w5 W) ⟨alAt rfl, belA (Below.refl _ _) _⟩ ?_
      rintro W6 ⟨hQ6, hB6⟩
      have HQ6 : Hid (W6.heap[w5.heap.size]? = some (.cells #[.slice (some ⟨O5, 0, none⟩) (n + 1) (n + 1), .int .i64 1, .slice (some ⟨M5, 0, none⟩) 1 1] 30 (0, 0))) := hQ6
      have HX6 : Hid (W6.heap[X]? = some (.cells #[.slice ao (n + 1) cap, .slice (some ⟨T, 0, none⟩) 1 1, .int .i64 1] 26 (0, 0))) := (hB6.block X lX5).trans HX5.out
      have HP6 : Hid (W6.heap[P]? = some (.cells #[.slice (some ⟨O, 0, none⟩) (n + 1) (n + 1), .int .i64 (c : Int), .slice (some ⟨M, 0, none⟩) c c] 30 (0, 0))) := (hB6.block P lP5).trans HP5.out
      have HN6 : Hid (NdsAt W6 (.slice ao (n + 1) cap) (chL n t)) := HN5.out.below hB6
      have HT6 : Hid (IntsAt W6 (.slice (some ⟨T, 0, none⟩) 1 1) [0]) := HT5.out.below hB6
      have HB6 : Hid (Below w.heap.size w W6) := bel HB5.out hB6
      have HMy := lMay_c (chL n t) (rowL (n + 1) of) (aheadL (chL n t) (rowL (n + 1) of) c) (c : Int) (.slice ao (n + 1) cap) (.slice (some ⟨T, 0, none⟩) 1 1) _ _ 1 W6 HN6.out ⟨_, _, _, rfl⟩ (HO5.out.below hB6) (HA5.out.below hB6) (may_okd (ch_may hn60 ht1 ht2))
      generalize w5.heap.size = Q at HQ6 ⊢
      clear hQ6 hB6 HX5 HP5 HN5 HT5 HB5 HO5 HA5 a0 a1 a2 b0 b1 b2 lX5 lP5
      refine HMy.mono ?_
      rintro e w7 ⟨hr7, hb7⟩
      have e7 := hr7.t HP3.out
      subst e7
      have hX7 := (hb7.block X (hLt HX6.out)).trans HX6.out
      obtain ⟨a0, a1, a2⟩ := cells3n hX7
      obtain ⟨b0, b1, b2⟩ := cells3n ((hb7.block P (hLt HP6.out)).trans HP6.out)
      obtain ⟨d0, d1, d2⟩ := cells3n ((hb7.block Q (hLt HQ6.out)).trans HQ6.out)
      have lX7 := hLt hX7
      have lP7 := Nat.lt_of_lt_of_le (hLt HP6.out) hb7.size
      have lQ7 := Nat.lt_of_lt_of_le (hLt HQ6.out) hb7.size
      have HX7 : Hid (w7.heap[X]? = some (.cells #[.slice ao (n + 1) cap, .slice (some ⟨T, 0, none⟩) 1 1, .int .i64 1] 26 (0, 0))) := hX7
      have HN7 : Hid (NdsAt w7 (.slice ao (n + 1) cap) (chL n t)) := HN6.out.below hb7
      have HT7 : Hid (IntsAt w7 (.slice (some ⟨T, 0, none⟩) 1 1) [0]) := HT6.out.below hb7
      have HB7 : Hid (Below w.heap.size w w7) := bel HB6.out hb7
      clear HMy hr7 hX7 hb7 HX6 HP6 HQ6 HN6 HT6 HB6 HP3
      have g1 : decide (k < (c : Int)) = false := by simp; omega
      have g2 : decide ((n : Int) + 1 < (c : Int)) = false := by simp; omega
      have g3 : decide (n + 1 < c) = false := by simp; omega
      go_wp2_with fail
      obtain ⟨Z, hZ⟩ : ∃ Z, Z = w7.heap.size := ⟨_, rfl⟩
      have HZ : Hid (Z = w7.heap.size) := hZ
      have HE0 : Hid (Ew (w7.alloc (.cells #[.slice none 0 0, .int .i64 ((n : Int) + 1), .slice none 0 0] 30)).heap.size Z n t 0 0 (.slice none 0 0) (.slice none 0 0) [] (w7.alloc (.cells #[.slice none 0 0, .int .i64 ((n : Int) + 1), .slice none 0 0] 30))) := Ew.start (alAt hZ.symm)
      have HB8 : Hid (Below w7.heap.size w7 (w7.alloc (.cells #[.slice none 0 0, .int .i64 ((n : Int) + 1), .slice none 0 0] 30))) := belA (Below.refl _ _) _
      rw [← hZ]
      clear hZ
      generalize w7.alloc (.cells #[.slice none 0 0, .int .i64 ((n : Int) + 1), .slice none 0 0] 30) = W8 at HE0 HB8 ⊢
      generalize W8.heap.size = B at HE0
      have HLX7 : Hid (X < w7.heap.size) := lX7
      clear a0 a1 a2 b0 b1 b2 d0 d1 d2 lX7 lP7 lQ7 g1 g2 g3
      go_loopw [16] (fun s16 W => ∃ (i : Nat) (b1 : Option Addr) (cap1 : Nat) (b2 : Option Addr) (cap2 : Nat) (rs : List Nat), i ≤ n + 1 ∧ s16 = .int .i64 i ∧ Hid (Ew B Z n t i i (.slice b1 i cap1) (.slice b2 i cap2) rs W) ∧ Hid (Below w7.heap.size w7 W)) (fun s16 W => n + 1 - (intOf s16).toNat)
      case atStart => exact ⟨0, none, 0, none, 0, [], Nat.zero_le _, rfl, HE0.out, HB8.out⟩
      case round =>
        clear HE0 HB8
        obtain ⟨i, b1, cap1, b2, cap2, rs, hi, rfl, HE, HBw⟩ := hrel
        obtain ⟨p0, p1, p2, f0, f1, f2⟩ := cells3o HE.out.z
        have lZ := hLt HE.out.z
        by_cases hlt : i < n + 1
        · obtain ⟨i1, hi0, hz0, hz1, hz2⟩ := infoInt
          obtain ⟨i2, hj0, hy0, hy1, hy2⟩ := infoInts
          have hmk := mkInts (n + 1) (by omega)
          rw [show ((n + 1 : Nat) : Int) = (n : Int) + 1 from by omega] at hmk
          have c1' : (i : Int) ≤ (n : Int) := by omega
          have c2' : i ≤ n := by omega
          have HBx : Hid (Below wr.heap.size wr (wr.alloc (.cells #[.int .i64 ((n : Int) - (i : Int))] 3))) := belA (Below.refl _ _) _
          rcases Nat.eq_zero_or_pos i with hi00 | hip
          · have HI0 : Hid (i = 0) := hi00
            have d1 : decide (0 < (i : Int)) = false := by simp; omega
            have d2 : decide (0 < i) = false := by simp; omega
            clear hi00
            go_wp2_with (first
              | (at_builtin; refine wpList_append_own_at _ rfl _ _ 24 rfl B 3 i1 _ 1 8 Try.underlying24 hi0 hz0 hz1 hz2 rfl (by decide) (.slice b1 i cap1) i (iC (chO n i)) rfl (own_below HE.out.o HBx.out) ⟨wr.heap.size, 0, none⟩ 1 1 [.int .i64 ((n : Int) - (i : Int))] rfl rfl (new1i _ _ _ _ rfl) (by intro u hu; simp at hu; subst hu; rfl) (by unfold maxLen; omega) (by omega) (by have := HE.out.sb; simp; omega) ?_; intro v9 w9 hown9 hgrow9 hnil9 hloc9; obtain ⟨g9, cap9, rfl⟩ := own_slice1 hown9; have q9 := HE.out.zgrow HBx.out hgrow9 (own_ge HE.out.o); obtain ⟨c0, c1, c2, h0, h1, h2⟩ := cells3o q9; have lq9 := hLt q9; have HE1 : Hid (Ew B Z n t (i + 1) i (.slice (some ⟨g9, 0, none⟩) (i + 1) cap9) (.slice b2 i cap2) rs (w9.setCell ⟨Z, 0, none⟩ (.slice (some ⟨g9, 0, none⟩) (i + 1) cap9))) := HE.out.of HBx.out hown9 hgrow9 hloc9; have HO9 : Hid (World.grownBy _ w9 _) := hgrow9; clear hown9 hgrow9 hnil9 hloc9 q9)
              | (at_builtin; refine wpList_append_own_at _ rfl _ _ 28 rfl B 24 i2 _ 1 24 Try.underlying28 hj0 hy0 hy1 hy2 rfl (by decide) (.slice b2 i cap2) i (rs.map fun r => .slice (some ⟨r, 0, none⟩) (n + 1) (n + 1)) rfl (own_below HE1.out.a (chRow0 (W1 := (w9.setCell ⟨Z, 0, none⟩ (.slice (some ⟨g9, 0, none⟩) (i + 1) cap9))) (n := n) (i := i) (t := t) (R := w9.heap.size) (by simp [World.setCell]) HI0.out (.cells #[.slice (some ⟨w9.heap.size, 0, none⟩) (n + 1) (n + 1)] 24)).2) ⟨w9.heap.size + 1, 0, none⟩ 1 1 [.slice (some ⟨w9.heap.size, 0, none⟩) (n + 1) (n + 1)] rfl rfl (new1i _ _ _ _ (by simp [World.setCell])) (by intro u hu; simp at hu; subst hu; rfl) (by unfold maxLen; omega) (by omega) (by have := HE1.out.sb; have := (chRow0 (W1 := (w9.setCell ⟨Z, 0, none⟩ (.slice (some ⟨g9, 0, none⟩) (i + 1) cap9))) (n := n) (i := i) (t := t) (R := w9.heap.size) (by simp [World.setCell]) HI0.out (.cells #[.slice (some ⟨w9.heap.size, 0, none⟩) (n + 1) (n + 1)] 24)).2.size; omega) ?_; intro v8 w8 hown8 hgrow8 hnil8 hloc8; obtain ⟨g8, cap8, rfl⟩ := own_slice1 hown8; have q8 := HE1.out.zgrow (chRow0 (W1 := (w9.setCell ⟨Z, 0, none⟩ (.slice (some ⟨g9, 0, none⟩) (i + 1) cap9))) (n := n) (i := i) (t := t) (R := w9.heap.size) (by simp [World.setCell]) HI0.out (.cells #[.slice (some ⟨w9.heap.size, 0, none⟩) (n + 1) (n + 1)] 24)).2 hgrow8 (own_ge HE1.out.a); obtain ⟨e0, e1, e2, k0, k1, k2⟩ := cells3o q8; have lq8 := hLt q8; have HO8 : Hid (w8.ownsRow B 24 1 (.slice (some ⟨g8, 0, none⟩) (i + 1) cap8) (i + 1) _) := hown8; have HG8 : Hid (World.grownBy _ w8 _) := hgrow8; clear hown8 hgrow8 hnil8 hloc8 q8))
            have hE2 := HE1.out.ah (chRow0 (W1 := (w9.setCell ⟨Z, 0, none⟩ (.slice (some ⟨g9, 0, none⟩) (i + 1) cap9))) (n := n) (i := i) (t := t) (R := w9.heap.size) (by simp [World.setCell]) HI0.out (.cells #[.slice (some ⟨w9.heap.size, 0, none⟩) (n + 1) (n + 1)] 24)).2 (by simp [World.setCell]) (chRow0 (W1 := (w9.setCell ⟨Z, 0, none⟩ (.slice (some ⟨g9, 0, none⟩) (i + 1) cap9))) (n := n) (i := i) (t := t) (R := w9.heap.size) (by simp [World.setCell]) HI0.out (.cells #[.slice (some ⟨w9.heap.size, 0, none⟩) (n + 1) (n + 1)] 24)).1 HO8.out HG8.out
            have zb := HE.out.zb
            have zs := HZ.out
            have ws := HBw.out.size
            have hB1 := ((bel HBw.out HBx.out).grown HO9.out (by have := HBx.out.size; omega) (fun q e => by have := own_ge HE.out.o q e; omega)).setCell (p := ⟨Z, 0, none⟩) (by show w7.heap.size ≤ Z; omega) (.slice (some ⟨g9, 0, none⟩) (i + 1) cap9)
            have hB2 := ((bel hB1 (chRow0 (W1 := (w9.setCell ⟨Z, 0, none⟩ (.slice (some ⟨g9, 0, none⟩) (i + 1) cap9))) (n := n) (i := i) (t := t) (R := w9.heap.size) (by simp [World.setCell]) HI0.out (.cells #[.slice (some ⟨w9.heap.size, 0, none⟩) (n + 1) (n + 1)] 24)).2).grown HG8.out (by have := hB1.size; have := (chRow0 (W1 := (w9.setCell ⟨Z, 0, none⟩ (.slice (some ⟨g9, 0, none⟩) (i + 1) cap9))) (n := n) (i := i) (t := t) (R := w9.heap.size) (by simp [World.setCell]) HI0.out (.cells #[.slice (some ⟨w9.heap.size, 0, none⟩) (n + 1) (n + 1)] 24)).2.size; omega) (fun q e => by have := own_ge HE1.out.a q e; omega)).setCell (p := ⟨Z, 2, none⟩) (by show w7.heap.size ≤ Z; omega) (.slice (some ⟨g8, 0, none⟩) (i + 1) cap8)
            go_roundw
            case rel => exact ⟨i + 1, _, cap9, _, cap8, _, by omega, by go_num, hE2, hB2⟩
            case measure => simp [intOf]; omega
          · obtain ⟨j, hj⟩ : ∃ j, j + 1 = i := ⟨i - 1, by omega⟩
            have HJ : Hid (j + 1 = i) := hj
            have d1 : decide (0 < (i : Int)) = true := by simp; omega
            have d2 : decide (0 < i) = true := by simp; omega
            have hj2 : (i : Int) - 1 = (j : Int) := by omega
            have j1 : (0 : Int) ≤ (j : Int) := by omega
            have j2 : (j : Int) < (n : Int) + 1 := by omega
            have hmj : (madeCells #[Value.int .i64 0] (n + 1))[j]? = some (.int .i64 0) := (by have hjn : j < n + 1 := (by omega); simp [madeCells, Nat.mod_one, hjn])
            clear hj hip
            go_wp2_with (first
              | (at_builtin; refine wpList_append_own_at _ rfl _ _ 24 rfl B 3 i1 _ 1 8 Try.underlying24 hi0 hz0 hz1 hz2 rfl (by decide) (.slice b1 i cap1) i (iC (chO n i)) rfl (own_below HE.out.o HBx.out) ⟨wr.heap.size, 0, none⟩ 1 1 [.int .i64 ((n : Int) - (i : Int))] rfl rfl (new1i _ _ _ _ rfl) (by intro u hu; simp at hu; subst hu; rfl) (by unfold maxLen; omega) (by omega) (by have := HE.out.sb; simp; omega) ?_; intro v9 w9 hown9 hgrow9 hnil9 hloc9; obtain ⟨g9, cap9, rfl⟩ := own_slice1 hown9; have q9 := HE.out.zgrow HBx.out hgrow9 (own_ge HE.out.o); obtain ⟨c0, c1, c2, h0, h1, h2⟩ := cells3o q9; have lq9 := hLt q9; have HE1 : Hid (Ew B Z n t (i + 1) i (.slice (some ⟨g9, 0, none⟩) (i + 1) cap9) (.slice b2 i cap2) rs (w9.setCell ⟨Z, 0, none⟩ (.slice (some ⟨g9, 0, none⟩) (i + 1) cap9))) := HE.out.of HBx.out hown9 hgrow9 hloc9; have HO9 : Hid (World.grownBy _ w9 _) := hgrow9; clear hown9 hgrow9 hnil9 hloc9 q9)
              | (at_builtin; refine wpList_append_own_at _ rfl _ _ 28 rfl B 24 i2 _ 1 24 Try.underlying28 hj0 hy0 hy1 hy2 rfl (by decide) (.slice b2 i cap2) i (rs.map fun r => .slice (some ⟨r, 0, none⟩) (n + 1) (n + 1)) rfl (own_below HE1.out.a (chRow1 (W1 := (w9.setCell ⟨Z, 0, none⟩ (.slice (some ⟨g9, 0, none⟩) (i + 1) cap9))) (n := n) (i := i) (j := j) (t := t) (R := w9.heap.size) (by simp [World.setCell]) HJ.out (.cells #[.slice (some ⟨w9.heap.size, 0, none⟩) (n + 1) (n + 1)] 24)).2) ⟨w9.heap.size + 1, 0, none⟩ 1 1 [.slice (some ⟨w9.heap.size, 0, none⟩) (n + 1) (n + 1)] rfl rfl (new1i _ _ _ _ (by simp [World.setCell])) (by intro u hu; simp at hu; subst hu; rfl) (by unfold maxLen; omega) (by omega) (by have := HE1.out.sb; have := (chRow1 (W1 := (w9.setCell ⟨Z, 0, none⟩ (.slice (some ⟨g9, 0, none⟩) (i + 1) cap9))) (n := n) (i := i) (j := j) (t := t) (R := w9.heap.size) (by simp [World.setCell]) HJ.out (.cells #[.slice (some ⟨w9.heap.size, 0, none⟩) (n + 1) (n + 1)] 24)).2.size; omega) ?_; intro v8 w8 hown8 hgrow8 hnil8 hloc8; obtain ⟨g8, cap8, rfl⟩ := own_slice1 hown8; have q8 := HE1.out.zgrow (chRow1 (W1 := (w9.setCell ⟨Z, 0, none⟩ (.slice (some ⟨g9, 0, none⟩) (i + 1) cap9))) (n := n) (i := i) (j := j) (t := t) (R := w9.heap.size) (by simp [World.setCell]) HJ.out (.cells #[.slice (some ⟨w9.heap.size, 0, none⟩) (n + 1) (n + 1)] 24)).2 hgrow8 (own_ge HE1.out.a); obtain ⟨e0, e1, e2, k0, k1, k2⟩ := cells3o q8; have lq8 := hLt q8; have HO8 : Hid (w8.ownsRow B 24 1 (.slice (some ⟨g8, 0, none⟩) (i + 1) cap8) (i + 1) _) := hown8; have HG8 : Hid (World.grownBy _ w8 _) := hgrow8; clear hown8 hgrow8 hnil8 hloc8 q8))
            have hE2 := HE1.out.ah (chRow1 (W1 := (w9.setCell ⟨Z, 0, none⟩ (.slice (some ⟨g9, 0, none⟩) (i + 1) cap9))) (n := n) (i := i) (j := j) (t := t) (R := w9.heap.size) (by simp [World.setCell]) HJ.out (.cells #[.slice (some ⟨w9.heap.size, 0, none⟩) (n + 1) (n + 1)] 24)).2 (by simp [World.setCell]) (chRow1 (W1 := (w9.setCell ⟨Z, 0, none⟩ (.slice (some ⟨g9, 0, none⟩) (i + 1) cap9))) (n := n) (i := i) (j := j) (t := t) (R := w9.heap.size) (by simp [World.setCell]) HJ.out (.cells #[.slice (some ⟨w9.heap.size, 0, none⟩) (n + 1) (n + 1)] 24)).1 HO8.out HG8.out
            have zb := HE.out.zb
            have zs := HZ.out
            have ws := HBw.out.size
            have hB1 := ((bel HBw.out HBx.out).grown HO9.out (by have := HBx.out.size; omega) (fun q e => by have := own_ge HE.out.o q e; omega)).setCell (p := ⟨Z, 0, none⟩) (by show w7.heap.size ≤ Z; omega) (.slice (some ⟨g9, 0, none⟩) (i + 1) cap9)
            have hB2 := ((bel hB1 (chRow1 (W1 := (w9.setCell ⟨Z, 0, none⟩ (.slice (some ⟨g9, 0, none⟩) (i + 1) cap9))) (n := n) (i := i) (j := j) (t := t) (R := w9.heap.size) (by simp [World.setCell]) HJ.out (.cells #[.slice (some ⟨w9.heap.size, 0, none⟩) (n + 1) (n + 1)] 24)).2).grown HG8.out (by have := hB1.size; have := (chRow1 (W1 := (w9.setCell ⟨Z, 0, none⟩ (.slice (some ⟨g9, 0, none⟩) (i + 1) cap9))) (n := n) (i := i) (j := j) (t := t) (R := w9.heap.size) (by simp [World.setCell]) HJ.out (.cells #[.slice (some ⟨w9.heap.size, 0, none⟩) (n + 1) (n + 1)] 24)).2.size; omega) (fun q e => by have := own_ge HE1.out.a q e; omega)).setCell (p := ⟨Z, 2, none⟩) (by show w7.heap.size ≤ Z; omega) (.slice (some ⟨g8, 0, none⟩) (i + 1) cap8)
            go_roundw
            case rel => exact ⟨i + 1, _, cap9, _, cap8, _, by omega, by go_num, hE2, hB2⟩
            case measure => simp [intOf]; omega
        · obtain rfl : i = n + 1 := by omega
          have HX9 : Hid (wr.heap[X]? = some (.cells #[.slice ao (n + 1) cap, .slice (some ⟨T, 0, none⟩) 1 1, .int .i64 1] 26 (0, 0))) := (HBw.out.block X HLX7.out).trans HX7.out
          obtain ⟨a0, a1, a2⟩ := cells3n HX9.out
          have lX9 := hLt HX9.out
          have HC : Hid (∀ W, Below wr.heap.size wr W → Calls Try.prog 12 #[.agg #[.slice ao (n + 1) cap, .slice (some ⟨T, 0, none⟩) 1 1, .int .i64 1], .agg #[.slice b1 (n + 1) cap1, .int .i64 ((n : Int) + 1), .slice b2 (n + 1) cap2]] W fun e w' => e = .returned (.int .i64 0) ∧ Below W.heap.size W w') := fun W hW => by
            have hP := ch_each (t := t) hn60 ht1
            refine (pCheck_c (chL n t) [0] (chO n (n + 1)) (chA n t (n + 1)) ((n : Int) + 1) (.slice ao (n + 1) cap) (.slice (some ⟨T, 0, none⟩) 1 1) _ _ 1 W (HN7.out.below (bel HBw.out hW)) (HT7.out.below (bel HBw.out hW)) (ch_fits hn60) (HE.out.ints.below hW) (HE.out.rows.below hW)).mono fun e w' hh => ?_
            obtain ⟨h, hb⟩ := hh
            rcases h with ⟨_, h⟩ | ⟨h, _⟩
            · exact ⟨h, hb⟩
            · exact absurd ⟨ch_may hn60 ht1 ht2, hP⟩ h
          have HAw : Hid (∀ W, Calls Try.prog 10 #[] W fun e w' => e = .returned (.bool true) ∧ Below W.heap.size W w') := awake13
          have c1' : decide ((n : Int) + 1 ≤ (n : Int)) = false := by simp; omega
          go_wp2_with (first
            | (go_at_call 12; refine (HC.out _ (Below.refl _ _)).mono ?_; rintro e wA ⟨rfl, hbA⟩)
            | (go_at_call 10; refine (HAw.out _).mono ?_; rintro e wB ⟨rfl, hbB⟩))
          go_ret
          exact ⟨rfl, bel HB7.out (bel HBw.out (bel hbA hbB))⟩
end Go.Proofs.Ytkgonnnpoldcoaa
