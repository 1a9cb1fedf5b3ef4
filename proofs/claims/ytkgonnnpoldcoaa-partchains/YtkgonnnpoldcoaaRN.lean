/- The program's reaches and Check. -/
import Derived.Test.YtkgonnnpoldcoaaRK
namespace Go.Proofs.Ytkgonnnpoldcoaa
open Go.RowKit Lg Nl Go.Maps
set_option linter.unusedVariables false
set_option linter.unusedSimpArgs false
set_option maxRecDepth 100000

theorem NdsAt.shape {w : World} {v : Value} {l : List Nd} (h : NdsAt w v l) : ∃ a b c, v = .slice a b c := by obtain ⟨a, c, e, _⟩ := h; exact ⟨_, _, _, e⟩
theorem IntsAt.shape {w : World} {v : Value} {l : List Int} (h : IntsAt w v l) : ∃ a b c, v = .slice a b c := by obtain ⟨a, c, e, _⟩ := h; exact ⟨_, _, _, e⟩
theorem RowsAt.shape {w : World} {v : Value} {l : List (List Int)} (h : RowsAt w v l) : ∃ a b c, v = .slice a b c := by obtain ⟨a, c, e, _⟩ := h; exact ⟨_, _, _, e⟩
theorem rowInts {W : World} {T n : Nat} {f : Nat → Int} (h : W.rowIs T 3 n (fun q => .int .i64 (f q))) : IntsAt W (.slice (some ⟨T, 0, none⟩) n n) ((List.range n).map fun q => f q) := by
  refine ⟨some ⟨T, 0, none⟩, n, by simp, by simp, ?_⟩
  by_cases h0 : n = 0
  · left; subst h0; rfl
  · right
    refine ⟨T, 0, rfl, h.lt, fun i hi => ?_⟩
    have hi' : i < n := by simpa using hi
    rw [Nat.zero_add, h.cell hi']
    simp
/-- a square in memory is its rows -/
theorem Mx.rows {B N M : Nat} {R : Nat → Nat} {A : Nat → Nat → Int} {W : World} (h : Mx B N M R A W) : RowsAt W (.slice (some ⟨M, 0, none⟩) N N) ((List.range N).map fun (i : Nat) => (List.range N).map fun (k : Nat) => A i k) := by
  refine ⟨some ⟨M, 0, none⟩, N, by simp, by simp, ?_⟩
  by_cases h0 : N = 0
  · left; subst h0; rfl
  · right
    refine ⟨M, 0, rfl, h.m.lt, fun i hi => ?_⟩
    have hi' : i < N := by simpa using hi
    refine ⟨.slice (some ⟨R i, 0, none⟩) N N, ?_, by rw [Nat.zero_add]; exact h.m.cell hi'⟩
    have h2 := rowInts (h.r i hi')
    simpa using h2
set_option maxHeartbeats 4000000 in
theorem reaches_c (l : List Nd) (of : List Int) (ah : List (List Int)) (N : Nat) (vN vO vA : Value) (w : World) (hN : NdsAt w vN l) (hO : IntsAt w vO of) (hA : RowsAt w vA ah) (hk : OkD l) (hl : of.length = l.length) (hr : ∀ z ∈ of, 0 ≤ z ∧ z < (N : Int)) (hN64 : N ≤ 64) :
    Calls Try.prog 29 #[vN, .agg #[vO, .int .i64 (N : Int), vA]] w fun e w' => e = .returned (.bool (decide (ah = aheadL l of N))) ∧ Below w.heap.size w w' := by
  have HC1 : Hid (∀ W, Below w.heap.size w W → Calls Try.prog 24 #[vN, vO, .int .i64 (N : Int)] W fun e w' => ∃ (M : Nat), e = .returned (.slice (some ⟨M, 0, none⟩) N N) ∧ Hid (RowsAt w' (.slice (some ⟨M, 0, none⟩) N N) (aheadL l of N)) ∧ Below W.heap.size W w') := fun W hW =>
    (ahead_c l of N vN vO W (hN.below hW) (hO.below hW) hk hl hr hN64).mono fun e w' hh => by
      obtain ⟨M, R, rfl, h1, h2⟩ := hh
      exact ⟨M, rfl, h1.out.rows, h2⟩
  have HC2 : Hid (∀ W M, Below w.heap.size w W → RowsAt W (.slice (some ⟨M, 0, none⟩) N N) (aheadL l of N) → Calls Try.prog 46 #[vA, .slice (some ⟨M, 0, none⟩) N N, .func (.func 47) #[] #[]] W fun e w' => e = .returned (.bool (decide (ah = aheadL l of N))) ∧ Below W.heap.size W w') := fun W M hW hR =>
    equals_c ah (aheadL l of N) vA _ W (hA.below hW) hR (by rw [aheadL_len]; omega) (fun y hy => by
      obtain ⟨i, hi, e⟩ := List.getElem_of_mem hy
      rw [← e]; simp [aheadL]; omega)
  obtain ⟨na, n, nc, rfl⟩ := hN.shape
  obtain ⟨oa, m, oc, rfl⟩ := hO.shape
  obtain ⟨aa, am, ac, rfl⟩ := hA.shape
  clear hN hO hA hk hl hr
  generalize decide (ah = aheadL l of N) = bb at HC2 ⊢
  go_enter Try.func29, Try.ntmps29
  go_wp2
  have HB0 : Hid (Below w.heap.size w (w.alloc (.cells #[.slice oa m oc, .int .i64 (N : Int), .slice aa am ac] 30))) := belA (Below.refl _ _) _
  have HX : Hid (∀ W, Below (w.alloc (.cells #[.slice oa m oc, .int .i64 (N : Int), .slice aa am ac] 30)).heap.size (w.alloc (.cells #[.slice oa m oc, .int .i64 (N : Int), .slice aa am ac] 30)) W → (W.cell? ⟨w.heap.size, 0, none⟩ = some (.slice oa m oc) ∧ W.cell? ⟨w.heap.size, 1, none⟩ = some (.int .i64 (N : Int)) ∧ W.cell? ⟨w.heap.size, 2, none⟩ = some (.slice aa am ac))) := fun W hb => cells3n ((hb.block w.heap.size (by simp)).trans (alAt rfl))
  obtain ⟨c0, c1, c2⟩ := HX.out _ (Below.refl _ _)
  have lx : w.heap.size < (w.alloc (.cells #[.slice oa m oc, .int .i64 (N : Int), .slice aa am ac] 30)).heap.size := by simp
  generalize w.alloc (.cells #[.slice oa m oc, .int .i64 (N : Int), .slice aa am ac] 30) = W0 at HB0 HX c0 c1 c2 lx ⊢
  go_region_held (fun w' => w'.cell? ⟨w.heap.size, 0, none⟩ = some (.slice oa m oc) ∧ w'.cell? ⟨w.heap.size, 1, none⟩ = some (.int .i64 (N : Int)) ∧ w'.cell? ⟨w.heap.size, 2, none⟩ = some (.slice aa am ac)) (first | go_keep | exact HX.out _ (bel (bel (Below.refl _ _).drew hb5) hb6) | exact HX.out _ (bel (Below.refl _ _).drew hb5))
    (first
      | (go_at_call 24; refine (HC1.out _ (bel HB0.out (Below.refl _ _).drew)).mono ?_; rintro e w5 ⟨M, rfl, HR5, hb5⟩)
      | (go_at_call 46; refine (HC2.out _ M (bel HB0.out (bel (Below.refl _ _).drew hb5)) HR5.out).mono ?_; rintro e w6 ⟨rfl, hb6⟩))
  all_goals
    go_wp2_with fail
    go_ret
    exact ⟨rfl, bel HB0.out (bel (bel (Below.refl _ _).drew hb5) hb6)⟩
/-- an error is told, or none: whether P -/
def RetE (P : Prop) (e : Ending) : Prop := (P ∧ e = .returned (.int .i64 0)) ∨ (¬ P ∧ e = .returned (.int .i64 1))
theorem RetB.t {P : Prop} {e : Ending} (h : RetB P e) (hp : P) : e = .returned (.bool true) := by obtain ⟨b, rfl, h⟩ := h; rw [h.out.2 hp]
theorem RetB.f {P : Prop} {e : Ending} (h : RetB P e) (hp : ¬ P) : e = .returned (.bool false) := by
  obtain ⟨b, rfl, h⟩ := h
  cases b with
  | false => rfl
  | true => exact absurd (h.out.1 rfl) hp
set_option maxHeartbeats 4000000 in
theorem pCheck_c (l : List Nd) (nets : List Int) (of : List Int) (ah : List (List Int)) (N : Int) (vN vT vO vA : Value) (pt : Int) (w : World) (hN : NdsAt w vN l) (hT : IntsAt w vT nets) (hf : Fits l nets) (hO : IntsAt w vO of) (hA : RowsAt w vA ah) :
    Calls Try.prog 12 #[.agg #[vN, vT, .int .i64 pt], .agg #[vO, .int .i64 N, vA]] w fun e w' => RetE (mayN l nets pt = true ∧ PtsOk l of N ah) e ∧ Below w.heap.size w w' := by
  have HC : Hid (∀ W, Below w.heap.size w W → Calls Try.prog 26 #[.agg #[vN, vT, .int .i64 pt]] W fun e w' => e = .returned (.int .i64 (errB (mayN l nets pt))) ∧ Below W.heap.size W w') := fun W hW => kCheck_c l nets vN vT pt W (hN.below hW) (hT.below hW) hf
  have HTo : mayN l nets pt = true → ∀ W, Below w.heap.size w W → Calls Try.prog 27 #[vN, .agg #[vO, .int .i64 N, vA]] W fun e w' => RetB (Told l.length of N) e ∧ Below W.heap.size W w' := fun hm W hW => by
    obtain ⟨na, nc, rfl, hnc, _⟩ := id hN
    exact allTold_c of N na l.length nc vO vA W (hO.below hW) (by obtain ⟨a, c, e, _⟩ := hA; exact ⟨_, _, _, e⟩) (may_ok hm).n
  have HTg : mayN l nets pt = true → of.length = l.length → ∀ W, Below w.heap.size w W → Calls Try.prog 28 #[vN, vO] W fun e w' => RetB (Tog l of) e ∧ Below W.heap.size W w' := fun hm hl W hW => together_c l of vN vO W (hN.below hW) (hO.below hW) (may_ok hm) hl
  have HRe : mayN l nets pt = true → Told l.length of N → ∀ W, Below w.heap.size w W → Calls Try.prog 29 #[vN, .agg #[vO, .int .i64 N, vA]] W fun e w' => e = .returned (.bool (decide (ah = aheadL l of N.toNat))) ∧ Below W.heap.size W w' := fun hm ht W hW => by
    obtain ⟨h1, h2, h3, h4, h5⟩ := ht
    obtain ⟨c, rfl⟩ : ∃ c : Nat, N = (c : Int) := ⟨N.toNat, by omega⟩
    rw [Int.toNat_natCast]
    exact reaches_c l of ah c vN vO vA W (hN.below hW) (hO.below hW) (hA.below hW) (may_okd hm) h3 h4 (by omega)
  have HP : Told l.length of N → Tog l of → ah = aheadL l of N.toNat → PtsOk l of N ah := fun ht hg ha => ⟨ht.1, ht.2.1, ht.2.2.1, ht.2.2.2.1, ht.2.2.2.2, hg, ha⟩
  have HPt : PtsOk l of N ah → Told l.length of N := fun h => ⟨h.lo, h.hi, h.n, h.r, h.u⟩
  obtain ⟨na, n, nc, rfl⟩ := hN.shape
  obtain ⟨ta, k, tc, rfl⟩ := hT.shape
  obtain ⟨oa, m, oc, rfl⟩ := hO.shape
  obtain ⟨aa, am, ac, rfl⟩ := hA.shape
  clear hN hT hf hO hA
  have HX : Hid (∀ W, Below ((w.alloc (.cells #[.slice na n nc, .slice ta k tc, .int .i64 pt] 26)).alloc (.cells #[.slice oa m oc, .int .i64 N, .slice aa am ac] 30)).heap.size ((w.alloc (.cells #[.slice na n nc, .slice ta k tc, .int .i64 pt] 26)).alloc (.cells #[.slice oa m oc, .int .i64 N, .slice aa am ac] 30)) W → ((W.cell? ⟨w.heap.size, 0, none⟩ = some (.slice na n nc) ∧ W.cell? ⟨w.heap.size, 1, none⟩ = some (.slice ta k tc) ∧ W.cell? ⟨w.heap.size, 2, none⟩ = some (.int .i64 pt)) ∧ (W.cell? ⟨w.heap.size + 1, 0, none⟩ = some (.slice oa m oc) ∧ W.cell? ⟨w.heap.size + 1, 1, none⟩ = some (.int .i64 N) ∧ W.cell? ⟨w.heap.size + 1, 2, none⟩ = some (.slice aa am ac)) ∧ w.heap.size < W.heap.size ∧ w.heap.size + 1 < W.heap.size)) := fun W hb => by
    have h1 := (hb.block w.heap.size (by simp; omega)).trans ((alOld (by simp)).trans (alAt rfl))
    have h2 := (hb.block (w.heap.size + 1) (by simp)).trans (alAt (by simp))
    exact ⟨cells3n h1, cells3n h2, hLt h1, hLt h2⟩
  have HB0 : Hid (Below w.heap.size w ((w.alloc (.cells #[.slice na n nc, .slice ta k tc, .int .i64 pt] 26)).alloc (.cells #[.slice oa m oc, .int .i64 N, .slice aa am ac] 30))) := belA (belA (Below.refl _ _) _) _
  cases hmay : mayN l nets pt with
  | false =>
    rw [hmay] at HC
    have he : errB false = 1 := rfl
    rw [he] at HC
    clear HTo HTg HRe HP HPt hmay
    go_enter Try.func12, Try.ntmps12
    go_wp2_with (first | (go_at_call 26; refine (HC.out _ HB0.out).mono ?_; rintro e w5 ⟨rfl, hb5⟩))
    go_ret
    exact ⟨Or.inr ⟨fun h => (by cases h.1), rfl⟩, bel HB0.out hb5⟩
  | true =>
    rw [hmay] at HC
    have he : errB true = 0 := rfl
    rw [he] at HC
    rcases Classical.em (Told l.length of N) with ht | ht
    · have HT1 : Hid (∀ W, Below w.heap.size w W → Calls Try.prog 27 #[.slice na n nc, .agg #[.slice oa m oc, .int .i64 N, .slice aa am ac]] W fun e w' => e = .returned (.bool true) ∧ Below W.heap.size W w') := fun W hW => (HTo hmay W hW).mono fun e w' h => ⟨h.1.t ht, h.2⟩
      rcases Classical.em (Tog l of) with hg | hg
      · have HG1 : Hid (∀ W, Below w.heap.size w W → Calls Try.prog 28 #[.slice na n nc, .slice oa m oc] W fun e w' => e = .returned (.bool true) ∧ Below W.heap.size W w') := fun W hW => (HTg hmay ht.2.2.1 W hW).mono fun e w' h => ⟨h.1.t hg, h.2⟩
        have HR1 : Hid (∀ W, Below w.heap.size w W → Calls Try.prog 29 #[.slice na n nc, .agg #[.slice oa m oc, .int .i64 N, .slice aa am ac]] W fun e w' => e = .returned (.bool (decide (ah = aheadL l of N.toNat))) ∧ Below W.heap.size W w') := HRe hmay ht
        by_cases ha : ah = aheadL l of N.toNat
        · have HPP : Hid (PtsOk l of N ah) := HP ht hg ha
          rw [decide_eq_true ha] at HR1
          clear HTo HTg HRe HP HPt ht hg ha hmay
          go_enter Try.func12, Try.ntmps12
          go_wp2_with (first
            | (go_at_call 26; refine (HC.out _ HB0.out).mono ?_; rintro e w5 ⟨rfl, hb5⟩; have x5 := HX.out _ hb5; obtain ⟨⟨a0, a1, a2⟩, ⟨b0, b1, b2⟩, la, lb⟩ := x5)
            | (go_at_call 27; refine (HT1.out _ (bel HB0.out hb5)).mono ?_; rintro e w6 ⟨rfl, hb6⟩; have x6 := HX.out _ (bel hb5 hb6); obtain ⟨⟨c0, c1, c2⟩, ⟨d0, d1, d2⟩, lc, ld⟩ := x6)
            | (go_at_call 28; refine (HG1.out _ (bel HB0.out (bel hb5 hb6))).mono ?_; rintro e w7 ⟨rfl, hb7⟩; have x7 := HX.out _ (bel (bel hb5 hb6) hb7); obtain ⟨⟨e0, e1, e2⟩, ⟨f0, f1, f2⟩, le, lf⟩ := x7)
            | (go_at_call 29; refine (HR1.out _ (bel HB0.out (bel (bel hb5 hb6) hb7))).mono ?_; rintro e w8 ⟨rfl, hb8⟩))
          go_ret
          exact ⟨Or.inl ⟨⟨by simp, HPP.out⟩, rfl⟩, bel HB0.out (bel (bel (bel hb5 hb6) hb7) hb8)⟩
        · have HPP : Hid (¬ PtsOk l of N ah) := fun h => ha h.a
          rw [decide_eq_false ha] at HR1
          clear HTo HTg HRe HP HPt ht hg ha hmay
          go_enter Try.func12, Try.ntmps12
          go_wp2_with (first
            | (go_at_call 26; refine (HC.out _ HB0.out).mono ?_; rintro e w5 ⟨rfl, hb5⟩; have x5 := HX.out _ hb5; obtain ⟨⟨a0, a1, a2⟩, ⟨b0, b1, b2⟩, la, lb⟩ := x5)
            | (go_at_call 27; refine (HT1.out _ (bel HB0.out hb5)).mono ?_; rintro e w6 ⟨rfl, hb6⟩; have x6 := HX.out _ (bel hb5 hb6); obtain ⟨⟨c0, c1, c2⟩, ⟨d0, d1, d2⟩, lc, ld⟩ := x6)
            | (go_at_call 28; refine (HG1.out _ (bel HB0.out (bel hb5 hb6))).mono ?_; rintro e w7 ⟨rfl, hb7⟩; have x7 := HX.out _ (bel (bel hb5 hb6) hb7); obtain ⟨⟨e0, e1, e2⟩, ⟨f0, f1, f2⟩, le, lf⟩ := x7)
            | (go_at_call 29; refine (HR1.out _ (bel HB0.out (bel (bel hb5 hb6) hb7))).mono ?_; rintro e w8 ⟨rfl, hb8⟩))
          go_ret
          exact ⟨Or.inr ⟨fun h => HPP.out h.2, rfl⟩, bel HB0.out (bel (bel (bel hb5 hb6) hb7) hb8)⟩
      · have HG1 : Hid (∀ W, Below w.heap.size w W → Calls Try.prog 28 #[.slice na n nc, .slice oa m oc] W fun e w' => e = .returned (.bool false) ∧ Below W.heap.size W w') := fun W hW => (HTg hmay ht.2.2.1 W hW).mono fun e w' h => ⟨h.1.f hg, h.2⟩
        have HPP : Hid (¬ PtsOk l of N ah) := fun h => hg h.t
        clear HTo HTg HRe HP HPt ht hg hmay
        go_enter Try.func12, Try.ntmps12
        go_wp2_with (first
          | (go_at_call 26; refine (HC.out _ HB0.out).mono ?_; rintro e w5 ⟨rfl, hb5⟩; have x5 := HX.out _ hb5; obtain ⟨⟨a0, a1, a2⟩, ⟨b0, b1, b2⟩, la, lb⟩ := x5)
          | (go_at_call 27; refine (HT1.out _ (bel HB0.out hb5)).mono ?_; rintro e w6 ⟨rfl, hb6⟩; have x6 := HX.out _ (bel hb5 hb6); obtain ⟨⟨c0, c1, c2⟩, ⟨d0, d1, d2⟩, lc, ld⟩ := x6)
          | (go_at_call 28; refine (HG1.out _ (bel HB0.out (bel hb5 hb6))).mono ?_; rintro e w7 ⟨rfl, hb7⟩))
        go_ret
        exact ⟨Or.inr ⟨fun h => HPP.out h.2, rfl⟩, bel HB0.out (bel (bel hb5 hb6) hb7)⟩
    · have HT1 : Hid (∀ W, Below w.heap.size w W → Calls Try.prog 27 #[.slice na n nc, .agg #[.slice oa m oc, .int .i64 N, .slice aa am ac]] W fun e w' => e = .returned (.bool false) ∧ Below W.heap.size W w') := fun W hW => (HTo hmay W hW).mono fun e w' h => ⟨h.1.f ht, h.2⟩
      have HPP : Hid (¬ PtsOk l of N ah) := fun h => ht (HPt h)
      clear HTo HTg HRe HP HPt ht hmay
      go_enter Try.func12, Try.ntmps12
      go_wp2_with (first
        | (go_at_call 26; refine (HC.out _ HB0.out).mono ?_; rintro e w5 ⟨rfl, hb5⟩; have x5 := HX.out _ hb5; obtain ⟨⟨a0, a1, a2⟩, ⟨b0, b1, b2⟩, la, lb⟩ := x5)
        | (go_at_call 27; refine (HT1.out _ (bel HB0.out hb5)).mono ?_; rintro e w6 ⟨rfl, hb6⟩))
      go_ret
      exact ⟨Or.inr ⟨fun h => HPP.out h.2, rfl⟩, bel HB0.out (bel hb5 hb6)⟩
end Go.Proofs.Ytkgonnnpoldcoaa
