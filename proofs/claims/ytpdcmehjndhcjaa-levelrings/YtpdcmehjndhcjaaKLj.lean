/- LevelRings, walked. -/
import Derived.Test.YtpdcmehjndhcjaaKLi
import Derived.Test.YtpdcmehjndhcjaaKT
namespace Go.Proofs.Ytpdcmehjndhcjaa
open Go.RowKit Lg Nl Go.Maps
set_option linter.unusedVariables false
set_option linter.unusedSimpArgs false

theorem and31 (n : Int) : bits .and .i64 n 31 = n % 32 := maskK n 5 31 (by decide) (by decide)
theorem and255 (n : Int) : bits .and .i64 n 255 = n % 256 := maskK n 8 255 (by decide) (by decide)
theorem one8 (x : Nd) (ao : Option Addr) (n c : Nat) : ∀ u ∈ ndC x (.slice ao n c), u.oneCell' = true := by
  intro u hu
  simp [ndC] at hu
  rcases hu with rfl | rfl | rfl | rfl | rfl | rfl | rfl | rfl <;> rfl
theorem nw8 (w : World) (x : Nd) (vi : Value) (t : TypeId) {n : Nat} (hn : w.heap.size = n) (j : Nat) (u : Value) (h : (ndC x vi)[j]? = some u) : (w.alloc (.cells (ndC x vi).toArray t)).cell? ((⟨n, 0, none⟩ : Addr).add j) = some u := by
  subst hn
  rw [addO, Nat.zero_add, Lib.cell_of_heap (alAt rfl)]
  simpa using h
theorem ints_oneN {w : World} {N : Nat → Prop} {g : Nat} {z : Int} (hc : w.cell? ⟨g, 0, none⟩ = some (.int .i64 z)) (hg : g < w.heap.size) (hN : N g) : IntsN w N (.slice (some ⟨g, 0, none⟩) 1 1) [z] := by
  refine ⟨_, 1, rfl, Nat.le_refl _, Or.inr ⟨g, 0, rfl, hN, hg, fun i hi => ?_⟩⟩
  have : i = 0 := by simp at hi; exact hi
  subst this
  exact hc
theorem ints_noneN (w : World) (N : Nat → Prop) : IntsN w N (.slice none 0 0) [] := ⟨none, 0, rfl, Nat.le_refl _, Or.inl rfl⟩
theorem alOldCell {w : World} {o : Obj} {g j : Nat} {u : Value} (hg : g < w.heap.size) (h : w.cell? ⟨g, j, none⟩ = some u) : (w.alloc o).cell? ⟨g, j, none⟩ = some u := by
  rw [World.cell?_of_block (w := w) (a := ⟨g, j, none⟩) (alOld hg)]; exact h
theorem newN1 {W : World} {g n : Nat} {z : Int} (hn : W.heap.size = n) (hg : n ≠ g) : IntsN (W.alloc (.cells #[.int .i64 z] 3)) (fun q => q ≠ g) (.slice (some ⟨n, 0, none⟩) 1 1) [z] := by
  subst hn
  exact ints_oneN (by rw [Lib.cell_of_heap (alAt rfl)]; rfl) (by simp) hg
theorem newN2 {W : World} {g n : Nat} {y z : Int} (hn : W.heap.size = n) (hg : n ≠ g) : IntsN (W.alloc (.cells #[.int .i64 y, .int .i64 z] 3)) (fun q => q ≠ g) (.slice (some ⟨n, 0, none⟩) 2 2) [y, z] := by
  subst hn
  refine ⟨_, 2, rfl, Nat.le_refl _, Or.inr ⟨W.heap.size, 0, rfl, hg, by simp, fun i hi => ?_⟩⟩
  have h0 : i = 0 ∨ i = 1 := by simp at hi; omega
  rcases h0 with rfl | rfl <;> (rw [Lib.cell_of_heap (alAt rfl)]; rfl)
theorem put8 (W : World) (g o : Nat) (v0 v1 v2 v3 v4 v5 v6 v7 : Value) : (((((((W.setCell ⟨g, o, none⟩ v0).setCell ⟨g, o + 1, none⟩ v1).setCell ⟨g, o + 2, none⟩ v2).setCell ⟨g, o + 3, none⟩ v3).setCell ⟨g, o + 4, none⟩ v4).setCell ⟨g, o + 5, none⟩ v5).setCell ⟨g, o + 6, none⟩ v6).setCell ⟨g, o + 7, none⟩ v7 = W.setCells g o [v0, v1, v2, v3, v4, v5, v6, v7] := by
  simp only [World.setCells, Nat.add_assoc]
theorem putDel (vi : Value) (t : Nat) : [Value.int .i64 8, .int .i64 0, .int .i64 1, vi, .string ⟨#[]⟩, .int .i64 0, .int .i64 0, .int .i64 1] = ndC (nDel (t : Int)) vi := rfl
theorem putFlp (vi : Value) (y z : Nat) : [Value.int .i64 7, .int .i64 0, .int .i64 1, vi, .string ⟨#[]⟩, .int .i64 0, .int .i64 0, .int .i64 0] = ndC (nFlp (y : Int) (z : Int)) vi := rfl
theorem smp_fits {l : List Nd} {n : Nat} (hl : l.length = n + 1) (hn : n ≤ 33) (h : ∀ x ∈ l, Smp l.length x) : Fits l [] := by
  refine ⟨by omega, by simp, fun x hx => ?_, fun x hx => ?_⟩
  · cases h x hx <;> simp [nCst, nNot, nDel, nFlp]
  · cases h x hx <;> simp [nCst, nNot, nDel, nFlp]
/-- netlists of a ring: what Run and Loop tell -/
theorem rl_run {l : List Nd} {n k : Nat} (hr : Rl l n k [(k + 1) % n]) (hn : n ≤ 33) (hs : ∀ x ∈ l, Smp l.length x) (vN : Value) (W : World) (hN : NdsAt W vN l) :
    Calls Try.prog 8 #[.agg #[vN, .slice none 0 0, .int .i64 0]] W fun e w' => e = .returned (.tuple #[.slice none 0 0, .int .i64 110]) ∧ Below W.heap.size W w' := by
  have hl := hr.len
  have hm := smp_may (by omega) hs
  refine (lRun_c l [] vN _ 0 W hN (ints_nil _) (smp_fits hl hn hs)).mono ?_
  rintro e w' ⟨h, hb⟩
  rw [hm] at h
  rcases h with ⟨h, _⟩ | ⟨_, _, rfl⟩ | ⟨_, lv, T, hlv, _, _, _⟩
  · cases h
  · exact ⟨rfl, hb⟩
  · exact (lev_ring (may_ok hm) hlv.out hr.ring).elim
theorem rl_loop {l : List Nd} {n k : Nat} (hr : Rl l n k [(k + 1) % n]) (hn : n ≤ 33) (hs : ∀ x ∈ l, Smp l.length x) (vN : Value) (W : World) (hN : NdsAt W vN l) :
    Calls Try.prog 10 #[.agg #[vN, .slice none 0 0, .int .i64 0]] W fun e w' => (∃ ao p cap, e = .returned (.slice ao n cap) ∧ Hid (IntsAt w' (.slice ao n cap) (nZ p)) ∧ Hid (Ring l p)) ∧ Below W.heap.size W w' := by
  have hl := hr.len
  have hm := smp_may (by omega) hs
  refine (lLoop_c l [] vN _ 0 W hN (ints_nil _) (smp_fits hl hn hs)).mono ?_
  rintro e w' ⟨h, hb⟩
  rw [hm] at h
  rcases h with ⟨h, _⟩ | ⟨_, ⟨lv, hlv⟩, _⟩ | ⟨_, ao, p, cap, rfl, hI, hp⟩
  · cases h
  · exact (lev_ring (may_ok hm) hlv hr.ring).elim
  · have e := hr.len_ring hp.out
    rw [e] at hI
    rw [e]
    exact ⟨⟨ao, p, cap, rfl, hI, hp⟩, hb⟩
theorem rl_ok {l : List Nd} {n k : Nat} {q : List Nat} (hr : Rl l n k q) (hq : ∀ z ∈ q, z = n) (hn : n ≤ 33) (hs : ∀ x ∈ l, Smp l.length x) (vN : Value) (W : World) (hN : NdsAt W vN l) :
    Calls Try.prog 8 #[.agg #[vN, .slice none 0 0, .int .i64 0]] W fun e w' => (∃ T, e = .returned (.tuple #[.slice (some ⟨T, 0, none⟩) (n + 1) (n + 1), .int .i64 0])) ∧ Below W.heap.size W w' := by
  have hl := hr.len
  have hm := smp_may (by omega) hs
  refine (lRun_c l [] vN _ 0 W hN (ints_nil _) (smp_fits hl hn hs)).mono ?_
  rintro e w' ⟨h, hb⟩
  rw [hm] at h
  rcases h with ⟨h, _⟩ | ⟨_, ⟨p, hp⟩, _⟩ | ⟨_, lv, T, _, _, rfl, _⟩
  · cases h
  · exact (hr.no_ring hq hp).elim
  · rw [hl]; exact ⟨⟨T, rfl⟩, hb⟩
set_option maxRecDepth 100000 in
set_option maxHeartbeats 4000000 in
theorem LevelRings_c (a b : Int) (w : World) (ha : -9223372036854775808 ≤ a ∧ a ≤ 9223372036854775807) (hb : -9223372036854775808 ≤ b ∧ b ≤ 9223372036854775807) :
    Calls Try.prog 5 #[.int .i64 a, .int .i64 b] w fun e w' => e = .returned (.bool true) ∧ Below w.heap.size w w' := by
  have ra := and31
  have rb := and255
  obtain ⟨n, hn⟩ : ∃ n : Nat, 2 + a % 32 = (n : Int) := ⟨(2 + a % 32).toNat, by omega⟩
  have n2 : 2 ≤ n := by omega
  have n3 : n ≤ 33 := by omega
  obtain ⟨k, hk⟩ : ∃ k : Nat, b % 256 % (n : Int) = (k : Int) := ⟨(b % 256 % (n : Int)).toNat, by have := Int.emod_nonneg (b % 256) (b := (n : Int)) (by omega); omega⟩
  have hkn : k < n := by have := Int.emod_lt_of_pos (b % 256) (b := (n : Int)) (by omega); omega
  have n0 : ((n : Int) == 0) = false := by simp; omega
  have n1 : (1 : Int) ≤ (n : Int) := by omega
  clear ha hb
  go_enter Try.func5, Try.ntmps5
  go_wp2
  rw [hk]
  clear hn hk ra rb
  go_loopw [7, 8] (fun s7 s8 W => ∃ (i : Nat) (ao : Option Addr) (cap : Nat), i ≤ n ∧ s8 = .int .i64 i ∧ s7 = .slice ao i cap ∧ Hid (Rw w.heap.size (rgL n i) (.slice ao i cap) W) ∧ Hid (Below w.heap.size w W)) (fun s7 s8 W => n - (intOf s8).toNat)
  case atStart => exact ⟨0, none, 0, Nat.zero_le _, rfl, rfl, Rw.nil w (Nat.le_refl _), Below.refl _ _⟩
  case round =>
    obtain ⟨i, ao, cap, hi, rfl, rfl, HR, HB⟩ := hrel
    by_cases hlt : i < n
    · obtain ⟨t, ht⟩ : ∃ t, t = (i + 1) % n := ⟨_, rfl⟩
      have hti : ((i : Int) + 1) % (n : Int) = (t : Int) := by rw [ht]; simp
      have HX : Hid (rgL n (i + 1) = rgL n i ++ [nNot (t : Int)]) := by show rgL n (i + 1) = _; rw [rgL_succ, ht]
      obtain ⟨xs, hox, hnx⟩ := HR.out.row
      rw [rgL_len] at hox
      have HO : Hid (wr.ownsRow w.heap.size 39 8 (.slice ao i cap) i xs ∧ NcAt wr (Nr w.heap.size (.slice ao i cap)) (rgL n i) xs) := ⟨hox, hnx⟩
      obtain ⟨i0, hi0, hz0, hz1, hz2⟩ := infoNd
      have hsz := HR.out.s
      clear ht hox hnx
      go_wp2_with (first
        | (go_at_call 15; refine (not_c _ _).mono ?_; rintro e wA ⟨gA, rfl, hA1, hA2, hA3, hA4⟩)
        | (at_builtin; refine wpList_append_own_at _ rfl _ _ 22 rfl w.heap.size 39 i0 _ 8 88 Try.underlying22 hi0 hz0 hz1 hz2 rfl (by decide) (.slice ao i cap) i xs rfl (own_below HO.out.1 (belA hA4 _)) ⟨wA.heap.size, 0, none⟩ 1 1 (ndC (nNot (t : Int)) (.slice (some ⟨gA, 0, none⟩) 1 1)) rfl rfl (nw8 wA (nNot (t : Int)) _ _ rfl) (one8 (nNot (t : Int)) _ _ _) (by unfold maxLen; omega) (by omega) (by have := hA4.size; simp; omega) ?_; intro v7 w7 hown7 hgrow7 hnil7 hloc7))
      have hadd := HR.out.add (rgL_len n i).symm (belA hA4 _) HO.out hown7 hgrow7 hloc7 (ints_oneN (alOldCell hA2 hA3) (by simp; omega) hA1)
      have hb7 := (bel HB.out (belA hA4 (.cells #[.int .i64 3, .int .i64 7, .int .i64 1, .slice (some ⟨gA, 0, none⟩) 1 1, .string (S []), .int .i64 0, .int .i64 0, .int .i64 0] 39))).grown hgrow7 (by have := hA4.size; simp; omega) (own_ge HO.out.1)
      obtain ⟨g7, cap7, rfl⟩ := own_slice1 hown7
      rw [← HX.out] at hadd
      go_roundw
      case rel => exact ⟨i + 1, _, cap7, hlt, by go_num, rfl, hadd, hb7⟩
      case measure => simp [intOf]; omega
    · obtain rfl : n = i := by omega
      obtain ⟨xs, hox, hnx⟩ := HR.out.row
      rw [rgL_len] at hox
      have HO : Hid (wr.ownsRow w.heap.size 39 8 (.slice ao n cap) n xs ∧ NcAt wr (Nr w.heap.size (.slice ao n cap)) (rgL n n) xs) := ⟨hox, hnx⟩
      obtain ⟨i0, hi0, hz0, hz1, hz2⟩ := infoNd
      have hsz := HR.out.s
      clear hox hnx
      go_wp2_with (first
        | (at_builtin; refine wpList_append_own_at _ rfl _ _ 22 rfl w.heap.size 39 i0 _ 8 88 Try.underlying22 hi0 hz0 hz1 hz2 rfl (by decide) (.slice ao n cap) n xs rfl (own_below HO.out.1 (belA (Below.refl _ _) _)) ⟨wr.heap.size, 0, none⟩ 1 1 (ndC nCst (.slice none 0 0)) rfl rfl (nw8 wr nCst _ _ rfl) (one8 nCst _ _ _) (by unfold maxLen; omega) (by omega) (by simp; omega) ?_; intro v7 w7 hown7 hgrow7 hnil7 hloc7; obtain ⟨g7, cap7, rfl⟩ := own_slice1 hown7))
      have hadd := HR.out.add (x := nCst) (vi := .slice none 0 0) (rgL_len n n).symm (belA (Below.refl _ _) _) HO.out hown7 hgrow7 hloc7 (ints_noneN _ _)
      obtain ⟨g, cap, hv, hBg, hcap, hRg⟩ := hadd.rg (by simp)
      injection hv with e1 e2 e3
      injection e1 with e1
      injection e1 with e1
      subst e1 e3
      have hB7 : Below w.heap.size w w7 := (belA HB.out _).grown hgrow7 (by simp; omega) (own_ge HO.out.1)
      have hl : (rgL n n ++ [nCst]).length = n + 1 := rgA_len n
      rw [hl] at hcap
      refine gen_calls (fun W => Rg g7 (rgA n) W ∧ W.heap[w7.heap.size]? = some (.cells #[.slice (some ⟨g7, 0, none⟩) (n + 1) cap7, .slice none 0 0, .int .i64 0] 25 (0, 0)) ∧ Below w.heap.size w W ∧ g7 ≠ w7.heap.size) ⟨hRg.below (belA (Below.refl _ _) _), alAt rfl, belA hB7 _, Nat.ne_of_lt hRg.lt⟩ ?_
      rintro W1 ⟨hR1, hX1, hB1, hgX⟩
      have HR1 : Hid (Rg g7 (rgA n) W1) := hR1
      have HX1 : Hid (W1.heap[w7.heap.size]? = some (.cells #[.slice (some ⟨g7, 0, none⟩) (n + 1) cap7, .slice none 0 0, .int .i64 0] 25 (0, 0))) := hX1
      have HB1 : Hid (Below w.heap.size w W1) := hB1
      have HN : Hid (∀ W l, l.length = n + 1 → Rg g7 l W → NdsAt W (.slice (some ⟨g7, 0, none⟩) (n + 1) cap7) l) := fun W l hl hh => by have := hh.nds (cap := cap7) (by rw [hl]; exact hcap); rw [hl] at this; exact this
      clear hadd hRg hB7 hl hR1 hX1 hB1 hown7 hgrow7 hloc7 hnil7 e2 HO HR HB hi hlt hsz hi0 hz0 hz1 hz2
      generalize w7.heap.size = X at HX1 hgX ⊢
      have HL : Hid (rgA n = rgA n) := rfl
      have hrl := rgA_rl n2 hkn
      have hsm := rgA_smp n (by omega)
      have HRun : Hid (∀ W, Below W1.heap.size W1 W → Calls Try.prog 8 #[.agg #[.slice (some ⟨g7, 0, none⟩) (n + 1) cap7, .slice none 0 0, .int .i64 0]] W fun e w' => e = .returned (.tuple #[.slice none 0 0, .int .i64 110]) ∧ Below W.heap.size W w') := fun W hW => rl_run hrl n3 hsm _ W (HN.out W _ (rgA_len n) (HR1.out.below hW))
      have HLp : Hid (∀ W, Below W1.heap.size W1 W → Calls Try.prog 10 #[.agg #[.slice (some ⟨g7, 0, none⟩) (n + 1) cap7, .slice none 0 0, .int .i64 0]] W fun e w' => (∃ ao p cap, e = .returned (.slice ao n cap) ∧ Hid (IntsAt w' (.slice ao n cap) (nZ p)) ∧ Hid (Ring (rgA n) p)) ∧ Below W.heap.size W w') := fun W hW => rl_loop hrl n3 hsm _ W (HN.out W _ (rgA_len n) (HR1.out.below hW))
      have HLd : Hid (∀ W p vP, Below W1.heap.size W1 W → IntsAt W vP (nZ p) → Ring (rgA n) p → Calls Try.prog 12 #[.agg #[.slice (some ⟨g7, 0, none⟩) (n + 1) cap7, .slice none 0 0, .int .i64 0], vP] W fun e w' => e = .returned (.bool true) ∧ Below W.heap.size W w') := fun W p vP hW hP hp => looped_c (rgA n) p _ _ vP 0 W (HN.out W _ (rgA_len n) (HR1.out.below hW)) ⟨none, 0, 0, rfl⟩ hP (may_ok (smp_may (by rw [rgA_len]; omega) hsm)) hp
      clear hrl hsm
      have lX := hLt HX1.out
      refine (HRun.out W1 (Below.refl _ _)).mono ?_
      rintro e w2 ⟨rfl, hb2⟩
      obtain ⟨x0, x1, x2⟩ := cells3n ((hb2.block X lX).trans HX1.out)
      have lX2 := Nat.lt_of_lt_of_le lX hb2.size
      have nn : ((n : Int) != (n : Int)) = false := by simp
      go_wp2_with fail
      go_region_held (fun w' => w'.cell? ⟨X, 0, none⟩ = some (.slice (some ⟨g7, 0, none⟩) (n + 1) cap7) ∧ w'.cell? ⟨X, 1, none⟩ = some (.slice none 0 0) ∧ w'.cell? ⟨X, 2, none⟩ = some (.int .i64 0)) (first | go_keep | exact cells3n (((hb7.block X lX6).trans ((hb6.block X lX5).trans ((hb5.block X lX2).trans (hb2.block X lX)))).trans HX1.out) | exact cells3n (((hb6.block X lX5).trans ((hb5.block X lX2).trans (hb2.block X lX))).trans HX1.out) | exact cells3n (((hb5.block X lX2).trans (hb2.block X lX)).trans HX1.out))
        (first
          | (go_at_call 12; refine (HLd.out _ p6 _ (bel (bel (bel hb2 (Below.refl _ _).drew) hb5) hb6) HI6.out HR6.out).mono ?_; rintro e w7' ⟨rfl, hb7⟩)
          | (go_at_call 10; have hx := lX5; refine (HLp.out _ (bel (bel hb2 (Below.refl _ _).drew) hb5)).mono ?_; rintro e w6 ⟨⟨ao6, p6, cp6, rfl, HI6, HR6⟩, hb6⟩; have lX6 : X < w6.heap.size := Nat.lt_of_lt_of_le lX5 hb6.size)
          | (go_at_call 10; refine (HLp.out _ (bel hb2 (Below.refl _ _).drew)).mono ?_; rintro e w5 ⟨⟨ao5, p5, cp5, rfl, HI5, HR5⟩, hb5⟩; have lX5 : X < w5.heap.size := Nat.lt_of_lt_of_le lX2 hb5.size))
      have HB8 : Hid (Below W1.heap.size W1 w7') := bel (bel (bel (bel hb2 (Below.refl _ _).drew) hb5) hb6) hb7
      rename_i hHeld
      clear hHeld hb2 hb5 hb6 hb7 x0 x1 x2 lX2 lX5 lX6 HRun HLp HLd HI5 HR5 HI6 HR6
      have HR8 : Hid (Rg g7 (rgA n) w7') := HR1.out.below HB8.out
      have hkl : k < (rgA n).length := by rw [rgA_len]; omega
      obtain ⟨vi, r0, r1, r2, r3, r4, r5, r6, r7⟩ := HR8.out.cells hkl
      have rf := HR8.out.fz
      have k1 : (0 : Int) ≤ (k : Int) := by omega
      have k2 : (k : Int) < (n : Int) + 1 := by omega
      obtain ⟨t, ht⟩ : ∃ t, t = (k + 1) % n := ⟨_, rfl⟩
      have hti : ((k : Int) + 1) % (n : Int) = (t : Int) := by rw [ht]; simp
      have HT : Hid (t = (k + 1) % n) := ht
      clear ht
      obtain ⟨x0, x1, x2⟩ := cells3n ((HB8.out.block X lX).trans HX1.out)
      have lX8 := Nat.lt_of_lt_of_le lX HB8.out.size
      have lg8 := HR8.out.lt
      go_wp2_with fail
      have hBw : Below w.heap.size w w7' := bel HB1.out HB8.out
      rw [put8, putDel _ t]
      refine gen_calls (fun W => Rg g7 ((rgA n).set k (nDel (t : Int))) W ∧ W.heap[X]? = some (.cells #[.slice (some ⟨g7, 0, none⟩) (n + 1) cap7, .slice none 0 0, .int .i64 0] 25 (0, 0)) ∧ Below w.heap.size w W) ⟨HR8.out.put hkl (x := nDel (t : Int)) (vi := .slice (some ⟨w7'.heap.size, 0, none⟩) 1 1) (newN1 (size_setCells _ _ _ _) (Nat.ne_of_gt lg8)), (alOld (by rw [size_setCells]; exact lX8)).trans ((heap_setCells g7 _ _ _ X (fun e => hgX e.symm)).trans ((HB8.out.block X lX).trans HX1.out)), belA (below_setCells g7 hBg _ _ _ hBw) _⟩ ?_
      clear r0 r1 r2 r3 r4 r5 r6 r7 rf x0 x1 x2 HR8 hBw lX8 lg8 hkl HB8 hx
      have htn : t < n := by rw [HT.out]; exact Nat.mod_lt _ (by omega)
      rintro W3 ⟨hR3, hX3, hB3⟩
      have HR3 : Hid (Rg g7 ((rgA n).set k (nDel (t : Int))) W3) := hR3
      have HX3 : Hid (W3.heap[X]? = some (.cells #[.slice (some ⟨g7, 0, none⟩) (n + 1) cap7, .slice none 0 0, .int .i64 0] 25 (0, 0))) := hX3
      have HB3 : Hid (Below w.heap.size w W3) := hB3
      have HN3 : Hid (∀ W, Below W3.heap.size W3 W → NdsAt W (.slice (some ⟨g7, 0, none⟩) (n + 1) cap7) ((rgA n).set k (nDel (t : Int)))) := fun W hW => HN.out W _ (by rw [List.length_set, rgA_len]) (hR3.below hW)
      clear hR3 hX3 hB3
      refine (rl_ok (rgS_rl n2 hkn (nDel (t : Int))) (by rw [hgs_del]; simp) n3 (rgS_smp (by omega) (.del t (by omega))) _ W3 (HN3.out W3 (Below.refl _ _))).mono ?_
      rintro e w4 ⟨⟨T4, rfl⟩, hb4⟩
      have HR4 : Hid (Rg g7 ((rgA n).set k (nDel (t : Int))) w4) := HR3.out.below hb4
      have HX4 : Hid (w4.heap[X]? = some (.cells #[.slice (some ⟨g7, 0, none⟩) (n + 1) cap7, .slice none 0 0, .int .i64 0] 25 (0, 0))) := (hb4.block X (hLt HX3.out)).trans HX3.out
      have HB4 : Hid (Below w.heap.size w w4) := bel HB3.out hb4
      have hkl4 : k < ((rgA n).set k (nDel (t : Int))).length := by rw [List.length_set, rgA_len]; omega
      obtain ⟨vi, r0, r1, r2, r3, r4, r5, r6, r7⟩ := HR4.out.cells hkl4
      have rf := HR4.out.fz
      obtain ⟨x0, x1, x2⟩ := cells3n HX4.out
      have lX4 := hLt HX4.out
      have lg4 := HR4.out.lt
      clear hb4
      go_wp2_with fail
      rw [put8, putFlp _ n t]
      refine gen_calls (fun W => Rg g7 ((rgA n).set k (nFlp (n : Int) (t : Int))) W ∧ W.heap[X]? = some (.cells #[.slice (some ⟨g7, 0, none⟩) (n + 1) cap7, .slice none 0 0, .int .i64 0] 25 (0, 0)) ∧ Below w.heap.size w W) ⟨by have h := HR4.out.put hkl4 (x := nFlp (n : Int) (t : Int)) (vi := .slice (some ⟨w4.heap.size, 0, none⟩) 2 2) (newN2 (size_setCells _ _ _ _) (Nat.ne_of_gt lg4)); rw [List.set_set] at h; exact h, (alOld (by rw [size_setCells]; exact lX4)).trans ((heap_setCells g7 _ _ _ X (fun e => hgX e.symm)).trans HX4.out), belA (below_setCells g7 hBg _ _ _ HB4.out) _⟩ ?_
      clear r0 r1 r2 r3 r4 r5 r6 r7 rf x0 x1 x2
      rintro W5 ⟨hR5, hX5, hB5⟩
      have HR5 : Hid (Rg g7 ((rgA n).set k (nFlp (n : Int) (t : Int))) W5) := hR5
      have HX5 : Hid (W5.heap[X]? = some (.cells #[.slice (some ⟨g7, 0, none⟩) (n + 1) cap7, .slice none 0 0, .int .i64 0] 25 (0, 0))) := hX5
      have HB5 : Hid (Below w.heap.size w W5) := hB5
      have HN5 : Hid (∀ W, Below W5.heap.size W5 W → NdsAt W (.slice (some ⟨g7, 0, none⟩) (n + 1) cap7) ((rgA n).set k (nFlp (n : Int) (t : Int)))) := fun W hW => HN.out W _ (by rw [List.length_set, rgA_len]) (hR5.below hW)
      clear hR5 hX5 hB5
      refine (rl_ok (rgS_rl n2 hkn (nFlp (n : Int) (t : Int))) (by rw [hgs_flp]; simp) n3 (rgS_smp (by omega) (.flp n t (by omega) (by omega))) _ W5 (HN5.out W5 (Below.refl _ _))).mono ?_
      rintro e w6 ⟨⟨T6, rfl⟩, hb6⟩
      have HR6 : Hid (Rg g7 ((rgA n).set k (nFlp (n : Int) (t : Int))) w6) := HR5.out.below hb6
      have HX6 : Hid (w6.heap[X]? = some (.cells #[.slice (some ⟨g7, 0, none⟩) (n + 1) cap7, .slice none 0 0, .int .i64 0] 25 (0, 0))) := (hb6.block X (hLt HX5.out)).trans HX5.out
      have HB6 : Hid (Below w.heap.size w w6) := bel HB5.out hb6
      have hkl6 : k < ((rgA n).set k (nFlp (n : Int) (t : Int))).length := by rw [List.length_set, rgA_len]; omega
      obtain ⟨vi, r0, r1, r2, r3, r4, r5, r6, r7⟩ := HR6.out.cells hkl6
      have rf := HR6.out.fz
      obtain ⟨x0, x1, x2⟩ := cells3n HX6.out
      have lX6 := hLt HX6.out
      have lg6 := HR6.out.lt
      clear hb6
      go_wp2_with fail
      rw [put8, putFlp _ t n]
      refine gen_calls (fun W => Rg g7 ((rgA n).set k (nFlp (t : Int) (n : Int))) W ∧ W.heap[X]? = some (.cells #[.slice (some ⟨g7, 0, none⟩) (n + 1) cap7, .slice none 0 0, .int .i64 0] 25 (0, 0)) ∧ Below w.heap.size w W) ⟨by have h := HR6.out.put hkl6 (x := nFlp (t : Int) (n : Int)) (vi := .slice (some ⟨w6.heap.size, 0, none⟩) 2 2) (newN2 (size_setCells _ _ _ _) (Nat.ne_of_gt lg6)); rw [List.set_set] at h; exact h, (alOld (by rw [size_setCells]; exact lX6)).trans ((heap_setCells g7 _ _ _ X (fun e => hgX e.symm)).trans HX6.out), belA (below_setCells g7 hBg _ _ _ HB6.out) _⟩ ?_
      clear r0 r1 r2 r3 r4 r5 r6 r7 rf x0 x1 x2
      rintro W7 ⟨hR7, hX7, hB7⟩
      have HR7 : Hid (Rg g7 ((rgA n).set k (nFlp (t : Int) (n : Int))) W7) := hR7
      have HX7 : Hid (W7.heap[X]? = some (.cells #[.slice (some ⟨g7, 0, none⟩) (n + 1) cap7, .slice none 0 0, .int .i64 0] 25 (0, 0))) := hX7
      have HB7 : Hid (Below w.heap.size w W7) := hB7
      have HN7 : Hid (∀ W, Below W7.heap.size W7 W → NdsAt W (.slice (some ⟨g7, 0, none⟩) (n + 1) cap7) ((rgA n).set k (nFlp (t : Int) (n : Int)))) := fun W hW => HN.out W _ (by rw [List.length_set, rgA_len]) (hR7.below hW)
      clear hR7 hX7 hB7
      have hrl : Rl ((rgA n).set k (nFlp (t : Int) (n : Int))) n k [(k + 1) % n] := by have h := rgS_rl n2 hkn (nFlp (t : Int) (n : Int)); rw [hgs_flp, HT.out] at h; rw [HT.out]; exact h
      have hsm : ∀ x ∈ (rgA n).set k (nFlp (t : Int) (n : Int)), Smp ((rgA n).set k (nFlp (t : Int) (n : Int))).length x := rgS_smp (by omega) (.flp t n (by omega) (by omega))
      have HLp : Hid (∀ W, Below W7.heap.size W7 W → Calls Try.prog 10 #[.agg #[.slice (some ⟨g7, 0, none⟩) (n + 1) cap7, .slice none 0 0, .int .i64 0]] W fun e w' => (∃ ao p cap, e = .returned (.slice ao n cap) ∧ Hid (IntsAt w' (.slice ao n cap) (nZ p)) ∧ Hid (Ring ((rgA n).set k (nFlp (t : Int) (n : Int))) p)) ∧ Below W.heap.size W w') := fun W hW => rl_loop hrl n3 hsm _ W (HN7.out W hW)
      refine (rl_run hrl n3 hsm _ W7 (HN7.out W7 (Below.refl _ _))).mono ?_
      rintro e w8 ⟨rfl, hb8⟩
      clear hrl hsm
      obtain ⟨x0, x1, x2⟩ := cells3n ((hb8.block X (hLt HX7.out)).trans HX7.out)
      have lX8 := Nat.lt_of_lt_of_le (hLt HX7.out) hb8.size
      go_wp2_with (first
        | (go_at_call 10; refine (HLp.out _ hb8).mono ?_; rintro e w9 ⟨⟨ao9, p9, cp9, rfl, HI9, HR9⟩, hb9⟩)
        | (go_at_call 7; refine (awake11 _).mono ?_; rintro e wz ⟨rfl, hbz⟩))
      go_ret
      exact ⟨rfl, bel (bel (bel HB7.out hb8) hb9) hbz⟩
end Go.Proofs.Ytpdcmehjndhcjaa
