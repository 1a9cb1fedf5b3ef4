/- LevelOrders, walked, over what Made tells. -/
import Derived.Test.YtpdcmehjndhcjaaKLf
import Derived.Test.YtpdcmehjndhcjaaKY
namespace Go.Proofs.Ytpdcmehjndhcjaa
open Go.RowKit Lg Nl Go.Maps
set_option linter.unusedVariables false
set_option linter.unusedSimpArgs false

/-- what Made tells -/
def MadeC : Prop := ∀ (vG : Value) (m : Nat) (F : Nat → Nat → Int) (w : World), GsAt w w.heap.size vG m F → m ≤ 17592186044416 →
    Calls Try.prog 13 #[vG] w fun e w' => ∃ l nets vN vT, e = .returned (.agg #[vN, vT, .int .i64 ((nets : List Int).length : Nat)]) ∧ Hid (NdsAt w' vN l) ∧ Hid (IntsAt w' vT nets) ∧ Hid (Mk l) ∧ Hid (l.length ≤ 122 ∧ nets.length ≤ 6) ∧ Hid (mayN l nets nets.length = true) ∧ Below w.heap.size w w'
/-- the greatest of some numbers -/
def mostL (lv : Nat → Int) (hs : List Int) : Int := hs.foldl (fun a h => max a (lv h.toNat)) (-1)
theorem mostL_snoc (lv : Nat → Int) (hs : List Int) (h : Int) : mostL lv (hs ++ [h]) = max (mostL lv hs) (lv h.toNat) := by simp [mostL]
theorem most_from (lv : Nat → Int) : ∀ (hs : List Int) (a : Int), a ≤ hs.foldl (fun a h => max a (lv h.toNat)) a ∧ (∀ h ∈ hs, lv h.toNat ≤ hs.foldl (fun a h => max a (lv h.toNat)) a) ∧ (hs.foldl (fun a h => max a (lv h.toNat)) a = a ∨ ∃ h ∈ hs, hs.foldl (fun a h => max a (lv h.toNat)) a = lv h.toNat)
  | [], a => ⟨Int.le_refl _, by simp, Or.inl rfl⟩
  | x :: r, a => by
    obtain ⟨p, q, s⟩ := most_from lv r (max a (lv x.toNat))
    rw [List.foldl_cons]
    refine ⟨by omega, fun h hh => ?_, ?_⟩
    · rcases List.mem_cons.1 hh with rfl | hh
      · omega
      · exact q h hh
    · rcases s with s | ⟨h, hh, s⟩
      · by_cases e : lv x.toNat ≤ a
        · left; rw [s]; omega
        · right; exact ⟨x, List.mem_cons_self .., by rw [s]; omega⟩
      · right; exact ⟨h, List.mem_cons_of_mem _ hh, s⟩
theorem lev_most {l : List Nd} (hk : Ok l) {lv : Nat → Int} (h : Lev l lv) {i : Nat} (hi : i < l.length) : lv i = mostL lv (hangL l[i]) + 1 := by
  obtain ⟨p, q, s⟩ := most_from lv (hangL l[i]) (-1)
  have e : ndAt l i = l[i] := ndAt_eq hi
  have up : ∀ y ∈ hangL l[i], lv y.toNat + 1 ≤ lv i := fun y hy => h.up i hi _ (by rw [e]; exact List.mem_map.2 ⟨y, hy, rfl⟩)
  have lo : ∀ y ∈ hangL l[i], 0 ≤ lv y.toNat := fun y hy => by
    have := hang_mem hk (List.getElem_mem hi) y hy
    simp [inB] at this
    exact h.lo _ (by omega)
  have hl := h.lo i hi
  show lv i = (hangL l[i]).foldl (fun a h => max a (lv h.toNat)) (-1) + 1
  rcases h.ti i hi with h0 | ⟨z, hz, e2⟩
  · rcases s with s | ⟨y, hy, s⟩
    · omega
    · have := up y hy; have := lo y hy; omega
  · rw [e] at hz
    obtain ⟨y, hy, rfl⟩ := List.mem_map.1 hz
    have := q y hy
    rcases s with s | ⟨y', hy', s⟩
    · have := lo y hy; omega
    · have := up y' hy'; omega
theorem most_bd {lv : Nat → Int} {hs : List Int} (h : ∀ y ∈ hs, 0 ≤ lv y.toNat ∧ lv y.toNat ≤ 122) : -1 ≤ mostL lv hs ∧ mostL lv hs ≤ 122 := by
  obtain ⟨p, _, s⟩ := most_from lv hs (-1)
  refine ⟨p, ?_⟩
  show hs.foldl (fun a h => max a (lv h.toNat)) (-1) ≤ 122
  rcases s with s | ⟨y, hy, s⟩
  · omega
  · have := (h y hy).2; omega
theorem may_vl {l : List Nd} {nets : List Int} {pt : Int} (h : mayN l nets pt = true) : ∀ x ∈ l, x.vl.length ≤ 256 := by
  intro x hx
  unfold mayN at h
  rw [Bool.and_eq_true, Bool.and_eq_true, Bool.and_eq_true, decide_eq_true_iff, List.all_eq_true, List.all_eq_true] at h
  have h2 := h.1.1.2 x hx
  have h4 := h.2 x hx
  rw [shape_parts, Bool.and_eq_true, Bool.and_eq_true] at h2
  have hz := h2.1.2
  by_cases hk : x.k = 1
  · unfold nodeB at h4
    rw [if_pos hk] at h4
    simp [vec] at h4
    omega
  · have : x.vl = [] := by simp [zeroB, hk] at hz; exact hz.1.1.2
    rw [this]; simp
theorem may_fits {l : List Nd} {nets : List Int} {pt : Int} (h : mayN l nets pt = true) (hn : nets.length ≤ 1000) : Fits l nets := by
  have hok := may_ok h
  exact ⟨by have := hok.n; omega, by omega, fun x hx => by have := hok.q x hx; omega, fun x hx => by have := may_vl h x hx; omega⟩
set_option maxRecDepth 100000 in
set_option maxHeartbeats 4000000 in
theorem LevelOrders_c (hMade : MadeC) (vG : Value) (m : Nat) (F : Nat → Nat → Int) (w : World) (hG : GsAt w w.heap.size vG m F) (hm : m ≤ 17592186044416) :
    Calls Try.prog 4 #[vG] w fun e w' => e = .returned (.bool true) ∧ Below w.heap.size w w' := by
  obtain ⟨ga, gc, rfl, hG'⟩ := id hG
  have HMd : Hid (Calls Try.prog 13 #[.slice ga m gc] w fun e w' => ∃ l nets na n nc ta k tc, e = .returned (.agg #[.slice na n nc, .slice ta k tc, .int .i64 (k : Nat)]) ∧ n ≤ 122 ∧ k ≤ 6 ∧ Hid (n = (l : List Nd).length) ∧ Hid (k = (nets : List Int).length) ∧ Hid (NdsAt w' (.slice na n nc) l) ∧ Hid (IntsAt w' (.slice ta k tc) nets) ∧ Hid (Mk l) ∧ Hid (mayN l nets k = true) ∧ Hid (Below w.heap.size w w')) := by
    refine (hMade _ m F w hG hm).mono ?_
    rintro e w' ⟨l, nets, vN, vT, rfl, h1, h2, h3, h4, h5, h6⟩
    obtain ⟨na, nc, rfl, _⟩ := id h1.out
    obtain ⟨ta, tc, rfl, _⟩ := id h2.out
    exact ⟨l, nets, na, l.length, nc, ta, nets.length, tc, rfl, h4.out.1, h4.out.2, rfl, rfl, h1, h2, h3, h5, h6⟩
  clear hG hG' hMade
  go_enter Try.func4, Try.ntmps4
  go_wp2_with (first | (go_at_call 13; refine HMd.out.mono ?_; rintro e w1 ⟨l, nets, na, n, nc, ta, k, tc, rfl, hn, hk6, HNL, HKL, HN, HT, HMk, HMay, HB1⟩))
  have hok := may_ok HMay.out
  obtain ⟨f0, hf0, hlev⟩ := HMk.out.levels hok
  have hfits := may_fits HMay.out (by rw [← HKL.out]; omega)
  have HRun : Hid (∀ W, Below w1.heap.size w1 W → Calls Try.prog 8 #[.agg #[.slice na n nc, .slice ta k tc, .int .i64 (k : Nat)]] W fun e w' => (∃ T lv, e = .returned (.tuple #[.slice (some ⟨T, 0, none⟩) n n, .int .i64 0]) ∧ Hid (Lev l lv) ∧ Hid (w'.rowIs T 3 n (fun q => .int .i64 (lv q)))) ∧ Below W.heap.size W w') := fun W hW => (lRun_c l nets _ _ _ W (HN.out.below hW) (HT.out.below hW) hfits).mono fun e w' h => by
    obtain ⟨h, hb⟩ := h
    rw [HMay.out] at h
    rcases h with ⟨h, _⟩ | ⟨_, ⟨p, hp⟩, _⟩ | ⟨_, lv, T, hl, _, rfl, hr⟩
    · cases h
    · exact (lev_ring hok hlev hp).elim
    · rw [← HNL.out] at hr ⊢
      exact ⟨⟨T, lv, rfl, hl, hr⟩, hb⟩
  have HLoop : Hid (∀ W, Below w1.heap.size w1 W → Calls Try.prog 10 #[.agg #[.slice na n nc, .slice ta k tc, .int .i64 (k : Nat)]] W fun e w' => e = .returned (.slice none 0 0) ∧ Below W.heap.size W w') := fun W hW => (lLoop_c l nets _ _ _ W (HN.out.below hW) (HT.out.below hW) hfits).mono fun e w' h => by
    obtain ⟨h, hb⟩ := h
    rw [HMay.out] at h
    rcases h with ⟨h, _⟩ | ⟨_, _, h⟩ | ⟨_, ao, p, cap, _, _, hp⟩
    · cases h
    · exact ⟨h, hb⟩
    · exact (lev_ring hok hlev hp.out).elim
  have HOK : Hid (Ok l) := hok
  clear hok hfits hf0 hlev HMd
  refine gen_calls (fun W => W.heap[w1.heap.size]? = some (.cells #[.slice na n nc, .slice ta k tc, .int .i64 (k : Nat)] 25 (0, 0)) ∧ Below w1.heap.size w1 W) ⟨alAt rfl, belA (Below.refl _ _) _⟩ ?_
  rintro W1 ⟨hX, hB1⟩
  have HX : Hid (W1.heap[w1.heap.size]? = some (.cells #[.slice na n nc, .slice ta k tc, .int .i64 (k : Nat)] 25 (0, 0))) := hX
  have HBW : Hid (Below w1.heap.size w1 W1) := hB1
  clear hX hB1
  obtain ⟨X, hX⟩ : ∃ X, X = w1.heap.size := ⟨_, rfl⟩
  rw [← hX] at HX ⊢
  clear hX
  refine (HRun.out W1 HBW.out).mono ?_
  rintro e w2 ⟨⟨T, lv, rfl, HLv, HRow⟩, hb2⟩
  have HB2 : Hid (Below W1.heap.size W1 w2) := hb2
  have lX := hLt HX.out
  obtain ⟨x0, x1, x2⟩ := cells3n ((hb2.block X lX).trans HX.out)
  have lX2 := Nat.lt_of_lt_of_le lX hb2.size
  have nn : ((n : Int) != (n : Int)) = false := by simp
  go_wp2_with fail
  have HXC : Hid (∀ W, Below w2.heap.size w2 W → (W.cell? ⟨X, 0, none⟩ = some (.slice na n nc) ∧ W.cell? ⟨X, 1, none⟩ = some (.slice ta k tc) ∧ W.cell? ⟨X, 2, none⟩ = some (.int .i64 (k : Nat))) ∧ X < W.heap.size) := fun W hW => ⟨cells3n ((hW.block X lX2).trans ((hb2.block X lX).trans HX.out)), Nat.lt_of_lt_of_le lX2 hW.size⟩
  have HB12 : Hid (Below w1.heap.size w1 w2) := bel HBW.out hb2
  clear x0 x1 x2 lX lX2 hb2
  go_loopw [6] (fun s6 W => ∃ i : Nat, i ≤ n ∧ s6 = .int .i64 i ∧ Hid (Below w2.heap.size w2 W)) (fun s6 W => n - (intOf s6).toNat)
  case atStart => exact ⟨0, Nat.zero_le _, rfl, Below.refl _ _⟩
  case round =>
    obtain ⟨i, hi, rfl, HB⟩ := hrel
    obtain ⟨⟨x0, x1, x2⟩, lX⟩ := HXC.out wr HB.out
    by_cases hlt : i < n
    · have hil : i < l.length := by rw [← HNL.out]; exact hlt
      obtain ⟨g, o, cap, hg⟩ := HN.out.some_ (by omega)
      injection hg with e1 e2 e3
      subst e1
      have hbw1 := bel HB12.out HB.out
      obtain ⟨gl, ia, ic, hI, d0, d1, d2, d3, d4, d5, d6, d7⟩ := (HN.out.below hbw1).at_ i hil
      have hmem := List.getElem_mem hil
      have HC : Hid (Calls Try.prog 14 #[.agg #[.int .i64 l[i].k, .int .i64 l[i].op, .int .i64 l[i].wd, .slice ia l[i].ins.length ic, .string (S l[i].vl), .int .i64 l[i].hi, .int .i64 l[i].lo, .int .i64 l[i].tm]] wr fun e w' => (∃ ao m cp, e = .returned (.slice ao m cp) ∧ Hid (m = (hangL l[i]).length) ∧ Hid (IntsAt wr (.slice ao m cp) (hangL l[i]))) ∧ Below wr.heap.size wr w') :=
        (kHangs_c l[i] ia ic wr hI (HOK.out.f _ hmem) (by have := HOK.out.q _ hmem; omega)).mono fun e w' hh => by
          obtain ⟨⟨a1, a2, a3, a4, a5, a6⟩, a7⟩ := hh
          exact ⟨⟨a1, a2, a3, a4, a5, a6 wr hI⟩, a7⟩
      have HHM : Hid (∀ z ∈ hangL l[i], inB l.length z = true) := hang_mem HOK.out hmem
      have hhl := hang_len HOK.out hmem
      have HMo : Hid (lv i = mostL lv (hangL l[i]) + 1) := lev_most HOK.out HLv.out hil
      generalize l[i] = x at d0 d1 d2 d3 d4 d5 d6 d7 HC HHM hhl HMo
      generalize hangL x = hs at HC HHM hhl HMo
      obtain ⟨xk, xop, wd, ins, vl, hi', lo, tm⟩ := x
      simp only at d0 d1 d2 d3 d4 d5 d6 d7 HC
      have i1 : (0 : Int) ≤ (i : Int) := by omega
      have i2 : (i : Int) < (n : Int) := by omega
      clear hI hmem e2 e3 hbw1
      go_wp2_with (first | (go_at_call 14; refine HC.out.mono ?_; rintro e w5 ⟨⟨ho, hm, hc, rfl, HMQ, HI5⟩, hb5⟩))
      have HB5 : Hid (Below w2.heap.size w2 w5) := bel HB.out hb5
      have HI6 : Hid (IntsAt w5 (.slice ho hm hc) hs) := HI5.out.below hb5
      have hm2 : hm ≤ 256 := by rw [HMQ.out]; exact hhl
      have HLb : Hid (∀ y ∈ hs, 0 ≤ lv y.toNat ∧ lv y.toNat ≤ 122) := fun y hy => by
        have h1 := HHM.out y hy
        simp [inB] at h1
        have h2 := lev_lt HOK.out HLv.out y.toNat (by omega)
        have h3 := HLv.out.lo y.toNat (by omega)
        have h4 := HNL.out
        exact ⟨h3, by omega⟩
      clear d0 d1 d2 d3 d4 d5 d6 d7 x0 x1 x2 lX HC hhl hb5 HB HI5
      go_loopw [8, 9] (fun s8 s9 W => ∃ (kk : Nat) (mo : Int), kk ≤ hm ∧ s9 = .int .i64 kk ∧ s8 = .int .i64 mo ∧ Hid (mo = mostL lv (hs.take kk)) ∧ Hid (Below w5.heap.size w5 W)) (fun s8 s9 W => hm - (intOf s9).toNat)
      case atStart => exact ⟨0, -1, Nat.zero_le _, rfl, rfl, rfl, Below.refl _ _⟩
      case round =>
        obtain ⟨kk, mo, hkk, rfl, rfl, HMM, HB6⟩ := hrel
        have hbd := most_bd (lv := lv) (hs := hs.take kk) (fun y hy => HLb.out y (List.mem_of_mem_take hy))
        rw [← HMM.out] at hbd
        obtain ⟨mo1, mo2⟩ := hbd
        by_cases hlk : kk < hm
        · have hkl : kk < hs.length := by rw [← HMQ.out]; exact hlk
          obtain ⟨g2, o2, cap2, hg2⟩ := HI6.out.some_ (by omega)
          injection hg2 with e4 e5 e6
          subst e4
          obtain ⟨gl3, gd3⟩ := HI6.out.cell kk hkl
          have hzi := HHM.out hs[kk] (List.getElem_mem hkl)
          have hzb := HLb.out hs[kk] (List.getElem_mem hkl)
          have htk : mostL lv (hs.take (kk + 1)) = max (mostL lv (hs.take kk)) (lv hs[kk].toNat) := by rw [List.take_succ_eq_append_getElem hkl, mostL_snoc]
          simp [inB] at hzi
          obtain ⟨z, hz⟩ : ∃ z : Nat, hs[kk] = (z : Int) := ⟨hs[kk].toNat, by omega⟩
          rw [hz] at gd3 hzi hzb htk
          rw [Int.toNat_natCast] at hzb htk
          have hzn : z < n := by have := HNL.out; omega
          have f1 := (HB6.out.cell (p := ⟨g2, o2 + kk, none⟩) gl3).trans gd3
          have f2 : wr.cell? ⟨T, z, none⟩ = some (.int .i64 (lv z)) := ((bel HB5.out HB6.out).cell (p := ⟨T, z, none⟩) HRow.out.lt).trans (HRow.out.cell hzn)
          have HTK : Hid (mostL lv (hs.take (kk + 1)) = max mo (lv z)) := by show _ = _; rw [htk, ← HMM.out]
          generalize lv z = y at f2 hzb HTK
          have k1 : (0 : Int) ≤ (kk : Int) := by omega
          have k2 : (kk : Int) < (hm : Int) := by omega
          have z1 : (0 : Int) ≤ (z : Int) := by omega
          have z2 : (z : Int) < (n : Int) := by omega
          clear htk e5 e6 gd3 hz hzi
          go_wp2_with fail
          go_roundw
          case rel => exact ⟨kk + 1, _, hlk, by go_num, rfl, by show _ = mostL lv (hs.take (kk + 1)); rw [HTK.out]; (try split) <;> omega, HB6.out⟩
          case measure => simp [intOf]; omega
        · obtain rfl : hm = kk := by omega
          have f2 : wr.cell? ⟨T, i, none⟩ = some (.int .i64 (mo + 1)) := by
            have h1 := ((bel HB5.out HB6.out).cell (p := ⟨T, i, none⟩) HRow.out.lt).trans (HRow.out.cell hlt)
            rw [h1, HMo.out, HMM.out, List.take_of_length_le (by rw [HMQ.out]; exact Nat.le_refl _)]
          have mm : ((mo + 1) != (mo + 1)) = false := by simp
          go_wp2_with fail
          go_roundw
          case rel => exact ⟨i + 1, hlt, by go_num, bel HB5.out HB6.out⟩
          case measure => simp [intOf]; omega
    · obtain rfl : n = i := by omega
      have HB0 : Hid (Below w1.heap.size w1 wr) := bel HB12.out HB.out
      go_wp2_with (first
        | (go_at_call 10; refine (HLoop.out _ HB0.out).mono ?_; rintro e w7 ⟨rfl, hb7⟩)
        | (go_at_call 7; refine (awake11 _).mono ?_; rintro e w8 ⟨rfl, hb8⟩))
      go_ret
      exact ⟨rfl, bel (bel (bel HB1.out HB0.out) hb7) hb8⟩
end Go.Proofs.Ytpdcmehjndhcjaa
