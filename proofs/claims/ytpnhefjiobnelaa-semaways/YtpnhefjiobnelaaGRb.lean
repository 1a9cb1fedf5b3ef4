/- Texts NrD NrE, joined: what each part says stands ahead of it. -/
import Derived.Test.YtpnhefjiobnelaaGRa
/- The reference's reader: signs, words and names that are at hand. -/
namespace Go.Proofs.Ytpnhefjiobnelaa
open Go.RowKit Lg Rp
set_option linter.unusedVariables false
set_option linter.unusedSimpArgs false

set_option maxRecDepth 100000 in
set_option maxHeartbeats 4000000 in
theorem rSees {b g cap k : Nat} {l : List Tok} {w : World} (h : Rq b g cap l k w) (x : ByteArray) : Calls Try.prog 47 #[.pointer (some ⟨b, 0, none⟩), .string x] w fun e w' => e = .returned (.bool (sw l k (L x))) ∧ Below w.heap.size w w' := by
  obtain ⟨c0, c1, c3, cf⟩ := h.at_
  obtain ⟨d0, d1, d2⟩ := h.tok h.k
  have HG := fun w' (hb : Below w.heap.size w w') => rGoing (h.below hb)
  have HR := fun w' => Reserved_c x w'
  have hk := h.k
  have hlt := h.lt
  have hb := h.blt
  have hne := h.ne
  obtain ⟨n, hn⟩ : ∃ n, n = l.length := ⟨_, rfl⟩
  rw [← hn] at c0 hk
  unfold sw
  obtain ⟨⟨kk, tx, p⟩, ht⟩ : ∃ t, t = tk l k := ⟨_, rfl⟩
  rw [← ht] at d0 d1 d2 ⊢
  simp only at d0 d1 d2 ⊢
  clear h hn ht
  have hkI : (k : Int) < (n : Int) := by omega
  by_cases hx : tx = L x
  · have e1 : ((S tx).toList == x.toList) = true := by rw [hx, S_L]; simp
    have e2 : (tx == L x) = true := by simpa using hx
    rw [e2]
    obtain ⟨sx, hsx⟩ : ∃ sx, sx = S tx := ⟨_, rfl⟩
    rw [← hsx] at d1 e1
    clear hx e2 hsx
    by_cases h3 : kk = 3
    · subst h3
      go_enter Try.func47, Try.ntmps47
      go_wp2
      go_region
      all_goals go_wp2_with (first
        | (go_at_call 18; refine (HG _ bxS.drew).mono ?_; rintro e w1 ⟨rfl, hw1⟩; have hw2 := hw1.symm; subst hw2))
      all_goals
        go_ret
        exact ⟨rfl, bxS.drew⟩
    · have b3 : (kk == 3) = false := by simpa using h3
      by_cases h1 : kk = 1
      · subst h1
        cases hw : isW (L x) with
        | true =>
          rw [hw] at HR
          clear hw h3
          go_enter Try.func47, Try.ntmps47
          go_wp2
          go_region
          all_goals go_wp2_with (first
            | (go_at_call 18; refine (HG _ bxS.drew).mono ?_; rintro e w1 ⟨rfl, hw1⟩; have hw2 := hw1.symm; subst hw2)
            | (go_at_call 54; refine (HR _).mono ?_; rintro e w2 ⟨rfl, hb2⟩))
          all_goals
            go_ret
            exact ⟨rfl, bel bxS.drew hb2⟩
        | false =>
          rw [hw] at HR
          clear hw h3
          go_enter Try.func47, Try.ntmps47
          go_wp2
          go_region
          all_goals go_wp2_with (first
            | (go_at_call 18; refine (HG _ bxS.drew).mono ?_; rintro e w1 ⟨rfl, hw1⟩; have hw2 := hw1.symm; subst hw2)
            | (go_at_call 54; refine (HR _).mono ?_; rintro e w2 ⟨rfl, hb2⟩))
          all_goals
            go_ret
            exact ⟨rfl, bel bxS.drew hb2⟩
      · have b1 : (kk == 1) = false := by simpa using h1
        clear h1 h3
        go_enter Try.func47, Try.ntmps47
        go_wp2
        go_region
        all_goals go_wp2_with (first
          | (go_at_call 18; refine (HG _ bxS.drew).mono ?_; rintro e w1 ⟨rfl, hw1⟩; have hw2 := hw1.symm; subst hw2))
        all_goals
          go_ret
          exact ⟨by rw [b3, b1]; rfl, bxS.drew⟩
  · have e1 := str_ne hx
    have e2 : (tx == L x) = false := by simpa using hx
    rw [e2]
    obtain ⟨sx, hsx⟩ : ∃ sx, sx = S tx := ⟨_, rfl⟩
    rw [← hsx] at d1 e1
    clear hx e2 hsx
    go_enter Try.func47, Try.ntmps47
    go_wp2
    go_region
    all_goals go_wp2_with (first
      | (go_at_call 18; refine (HG _ bxS.drew).mono ?_; rintro e w1 ⟨rfl, hw1⟩; have hw2 := hw1.symm; subst hw2))
    all_goals
      go_ret
      exact ⟨rfl, bxS.drew⟩
set_option maxHeartbeats 1000000 in
theorem rTakesY {b g cap k : Nat} {l : List Tok} {w : World} (h : Rq b g cap l k w) (x : ByteArray) (hx : sw l k (L x) = true) : Calls Try.prog 30 #[.pointer (some ⟨b, 0, none⟩), .string x] w fun e w' => e = .returned (.bool true) ∧ Rq b g cap l (k + 1) w' ∧ Kp b w w' := by
  have HS := rSees h x
  rw [hx] at HS
  have HN : Hid _ := h.next (sw_kind hx)
  have HT : Hid _ := h
  have hl := h.len
  have hk := h.k
  have hkb : k ≤ 100000 := by omega
  clear hx h hl hk
  go_enter Try.func30, Try.ntmps30
  go_wp2_with (first
    | (go_at_call 47; refine HS.mono ?_; rintro e w1 ⟨rfl, hb1⟩; obtain ⟨c0, c1, c3, cf⟩ := (HT.out.below hb1).at_; have hbl := (HT.out.below hb1).blt))
  go_ret
  exact ⟨rfl, Rq.set (HT.out.below hb1) HN.out _ (by simp), (Kp.of hb1).setb⟩
set_option maxHeartbeats 1000000 in
theorem rTakesN {b g cap k : Nat} {l : List Tok} {w : World} (h : Rq b g cap l k w) (x : ByteArray) (hx : sw l k (L x) = false) : Calls Try.prog 30 #[.pointer (some ⟨b, 0, none⟩), .string x] w fun e w' => e = .returned (.bool false) ∧ Below w.heap.size w w' := by
  have HS := rSees h x
  rw [hx] at HS
  clear hx h
  go_enter Try.func30, Try.ntmps30
  go_wp2_with (first
    | (go_at_call 47; refine HS.mono ?_; rintro e w1 ⟨rfl, hb1⟩))
  go_ret
  exact ⟨rfl, hb1⟩
set_option maxHeartbeats 1000000 in
theorem rMust {b g cap k : Nat} {l : List Tok} {w : World} (h : Rq b g cap l k w) (x : ByteArray) (hx : sw l k (L x) = true) : Calls Try.prog 28 #[.pointer (some ⟨b, 0, none⟩), .string x] w fun e w' => e = .returned (.tuple #[]) ∧ Rq b g cap l (k + 1) w' ∧ Kp b w w' := by
  have HS := rTakesY h x hx
  clear hx h
  go_enter Try.func28, Try.ntmps28
  go_wp2_with (first
    | (go_at_call 30; refine HS.mono ?_; rintro e w1 ⟨rfl, hs1, hk1⟩))
  go_end0
  exact ⟨rfl, hs1, hk1⟩
set_option maxRecDepth 100000 in
set_option maxHeartbeats 4000000 in
theorem rNamed {b g cap k : Nat} {l : List Tok} {w : World} (h : Rq b g cap l k w) : Calls Try.prog 46 #[.pointer (some ⟨b, 0, none⟩)] w fun e w' => e = .returned (.bool (nmK l k)) ∧ Below w.heap.size w w' := by
  obtain ⟨c0, c1, c3, cf⟩ := h.at_
  obtain ⟨d0, d1, d2⟩ := h.tok h.k
  have HG := fun w' (hb : Below w.heap.size w w') => rGoing (h.below hb)
  have hk := h.k
  have hlt := h.lt
  have hb := h.blt
  have hne := h.ne
  obtain ⟨n, hn⟩ : ∃ n, n = l.length := ⟨_, rfl⟩
  rw [← hn] at c0 hk
  unfold nmK
  obtain ⟨⟨kk, tx, p⟩, ht⟩ : ∃ t, t = tk l k := ⟨_, rfl⟩
  rw [← ht] at d0 d1 d2 ⊢
  simp only at d0 d1 d2 ⊢
  have HR := fun w' => Reserved_c (S tx) w'
  rw [L_S] at HR
  obtain ⟨sx, hsx⟩ : ∃ sx, sx = S tx := ⟨_, rfl⟩
  rw [← hsx] at d1 HR
  clear h hn ht hsx
  have hkI : (k : Int) < (n : Int) := by omega
  by_cases h1 : kk = 1
  · subst h1
    cases hw : isW tx <;> rw [hw] at HR <;> clear hw
    all_goals
      go_enter Try.func46, Try.ntmps46
      go_wp2
      go_region
      all_goals go_wp2_with (first
        | (go_at_call 18; refine (HG _ bxS.drew).mono ?_; rintro e w1 ⟨rfl, hw1⟩; have hw2 := hw1.symm; subst hw2)
        | (go_at_call 54; refine (HR _).mono ?_; rintro e w2 ⟨rfl, hb2⟩))
      all_goals
        go_ret
        exact ⟨rfl, bel bxS.drew hb2⟩
  · have b1 : (kk == 1) = false := by simpa using h1
    clear h1
    go_enter Try.func46, Try.ntmps46
    go_wp2
    go_region
    all_goals go_wp2_with (first
      | (go_at_call 18; refine (HG _ bxS.drew).mono ?_; rintro e w1 ⟨rfl, hw1⟩; have hw2 := hw1.symm; subst hw2))
    all_goals
      go_ret
      exact ⟨by rw [b1]; rfl, bxS.drew⟩
set_option maxRecDepth 100000 in
set_option maxHeartbeats 2000000 in
theorem rName {b g cap k : Nat} {l : List Tok} {w : World} (h : Rq b g cap l k w) (hx : nmK l k = true) : Calls Try.prog 29 #[.pointer (some ⟨b, 0, none⟩)] w fun e w' => e = .returned (.string (S (tk l k).x)) ∧ Rq b g cap l (k + 1) w' ∧ Kp b w w' := by
  have HS := rNamed h
  rw [hx] at HS
  have HN : Hid _ := h.next (nm_kind6 hx)
  have HT : Hid _ := h
  have hl := h.len
  have hk := h.k
  have hkb : k ≤ 100000 := by omega
  have hne := h.ne
  obtain ⟨n, hn⟩ : ∃ n, n = l.length := ⟨_, rfl⟩
  have HM : Hid _ := hn
  obtain ⟨sx, hsx⟩ : ∃ sx, sx = S (tk l k).x := ⟨_, rfl⟩
  have HX : Hid _ := hsx
  rw [← hsx]
  rw [← hn] at hk
  have hkI : (k : Int) < (n : Int) := by omega
  clear hx h hl hn hsx
  go_enter Try.func29, Try.ntmps29
  go_wp2_with (first
    | (go_at_call 46; refine HS.mono ?_; rintro e w1 ⟨rfl, hb1⟩; obtain ⟨c0, c1, c3, cf⟩ := (HT.out.below hb1).at_; have hbl := (HT.out.below hb1).blt; have hlt := (HT.out.below hb1).lt; rw [← HM.out] at c0; obtain ⟨d0, d1, d2⟩ := (HT.out.below hb1).tok HT.out.k; rw [← HX.out] at d1))
  have he : IntKind.i64.wrap ((k : Int) + 1 - 1) = (k : Int) := by rw [show (k : Int) + 1 - 1 = k by omega]; rw [IntKind.wrap_i64]; omega
  go_region
  all_goals go_wp2
  all_goals
    go_ret
    exact ⟨rfl, (Rq.set (HT.out.below hb1) HN.out _ (by simp)).below belD, (Kp.of hb1).setb.drew⟩
end Go.Proofs.Ytpnhefjiobnelaa

/- The reference's reader: operators, and whether an expression begins. -/
namespace Go.Proofs.Ytpnhefjiobnelaa
open Go.RowKit Lg Rp
set_option linter.unusedVariables false
set_option linter.unusedSimpArgs false

def unS : List (List UInt8) := [[126], [33], [45], [38], [124], [94]]
theorem unS_at {i : Nat} {x : List UInt8} (h : unS[i]? = some x) : unL x = 7 + (i : Int) := by
  have hi : i < 6 := by rcases Nat.lt_or_ge i 6 with h1 | h1; exact h1; rw [List.getElem?_eq_none (by simpa [unS] using h1)] at h; cases h
  have hii : i = 0 ∨ i = 1 ∨ i = 2 ∨ i = 3 ∨ i = 4 ∨ i = 5 := by omega
  rcases hii with rfl | rfl | rfl | rfl | rfl | rfl <;> (simp [unS] at h; subst h; rfl)
theorem unS_no {x : List UInt8} (h : unS.contains x = false) : unL x = 0 := by
  simp only [unS, List.contains_eq_mem, decide_eq_false_iff_not, List.mem_cons, List.not_mem_nil, or_false, not_or] at h
  obtain ⟨h0, h1, h2, h3, h4, h5⟩ := h
  unfold unL
  rw [if_neg h0, if_neg h1, if_neg h2, if_neg h3, if_neg h4, if_neg h5]
def biS : List (List UInt8) := [[124, 124], [38, 38], [124], [94], [38], [61, 61], [33, 61], [60], [60, 61], [62], [62, 61], [60, 60], [62, 62], [43], [45]]
def biN : List Nat := [1, 2, 3, 4, 5, 6, 6, 7, 7, 7, 7, 8, 8, 9, 9]
def biO : List Nat := [27, 26, 25, 24, 23, 21, 22, 17, 18, 19, 20, 15, 16, 13, 14]
def ints (l : List Nat) : List Value := l.map fun (x : Nat) => .int .i64 (x : Int)
theorem ints_at {l : List Nat} {i : Nat} {x : Nat} (h : l[i]? = some x) : (ints l)[i]? = some (.int .i64 (x : Int)) := by unfold ints; rw [List.getElem?_map, h]; rfl
theorem biS_at {i : Nat} {x : List UInt8} (h : biS[i]? = some x) : ∃ n o : Nat, biN[i]? = some n ∧ biO[i]? = some o ∧ biL x = ((o : Int), n) := by
  have hi : i < 15 := by rcases Nat.lt_or_ge i 15 with h1 | h1; exact h1; rw [List.getElem?_eq_none (by simpa [biS] using h1)] at h; cases h
  have hii : i = 0 ∨ i = 1 ∨ i = 2 ∨ i = 3 ∨ i = 4 ∨ i = 5 ∨ i = 6 ∨ i = 7 ∨ i = 8 ∨ i = 9 ∨ i = 10 ∨ i = 11 ∨ i = 12 ∨ i = 13 ∨ i = 14 := by omega
  rcases hii with rfl | rfl | rfl | rfl | rfl | rfl | rfl | rfl | rfl | rfl | rfl | rfl | rfl | rfl | rfl <;> (simp [biS] at h; subst h; exact ⟨_, _, rfl, rfl, rfl⟩)
theorem biS_no {x : List UInt8} (h : biS.contains x = false) : biL x = (0, 0) := by
  simp only [biS, List.contains_eq_mem, decide_eq_false_iff_not, List.mem_cons, List.not_mem_nil, or_false, not_or] at h
  obtain ⟨h0, h1, h2, h3, h4, h5, h6, h7, h8, h9, h10, h11, h12, h13, h14⟩ := h
  unfold biL
  rw [if_neg h0, if_neg h1, if_neg h2, if_neg h3, if_neg h4, if_neg h5, if_neg h6, if_neg h7, if_neg h8, if_neg h9, if_neg h10, if_neg h11, if_neg h12, if_neg h13, if_neg h14]
set_option maxRecDepth 100000 in
set_option maxHeartbeats 2000000 in
theorem rUnary_c (x : ByteArray) (w : World) : Calls Try.prog 71 #[.string x] w fun e w' => e = .returned (.int .i64 (unL (L x))) ∧ Below w.heap.size w w' := by
  go_enter Try.func71, Try.ntmps71
  go_wp2
  obtain ⟨W, hW⟩ : ∃ W, W = w.alloc (.cells (strs unS).toArray 9) := ⟨_, rfl⟩
  have HC : Hid (∀ (i : Nat) (y : List UInt8), unS[i]? = some y → W.cell? ⟨w.heap.size, i, none⟩ = some (.string (S y))) := fun i y h => hW ▸ strs_cell w unS _ h
  have HB : Hid (Below w.heap.size w W) := hW ▸ bxS
  have hlt : w.heap.size < W.heap.size := by rw [hW]; simp
  have hW2 : W = w.alloc (.cells #[.string ⟨#[126]⟩, .string ⟨#[33]⟩, .string ⟨#[45]⟩, .string ⟨#[38]⟩, .string ⟨#[124]⟩, .string ⟨#[94]⟩] 9) := hW
  rw [← hW2]
  clear hW hW2
  go_loop [4] (fun iv => ∃ i : Nat, i ≤ 6 ∧ iv = .int .i64 i ∧ Hid ((unS.take i).contains (L x) = false)) (fun iv => 6 - (intOf iv).toNat)
  case atStart => exact ⟨0, by omega, rfl, rfl⟩
  case round =>
    obtain ⟨i, hi, rfl, HF⟩ := hrel
    by_cases hlt2 : i < 6
    · obtain ⟨y, hy⟩ : ∃ y, unS[i]? = some y := ⟨_, List.getElem?_eq_getElem (show i < unS.length from hlt2)⟩
      have hc := HC.out i y hy
      have hiI : (i : Int) < 6 := by omega
      by_cases he : y = L x
      · have e1 : ((S y).toList == x.toList) = true := by rw [he, S_L]; simp
        have HE : Hid (unL (L x) = 7 + (i : Int)) := unS_at (he ▸ hy)
        obtain ⟨sy, hsy⟩ : ∃ sy, sy = S y := ⟨_, rfl⟩
        rw [← hsy] at hc e1
        clear hy he hsy
        go_wp2
        go_ret
        exact ⟨by rw [HE.out]; go_num, HB.out⟩
      · have e1 := str_ne he
        have HN : Hid _ := take_any hy HF.out he
        obtain ⟨sy, hsy⟩ : ∃ sy, sy = S y := ⟨_, rfl⟩
        rw [← hsy] at hc e1
        clear hy he hsy
        go_wp2
        go_round
        case rel => exact ⟨i + 1, by omega, by go_num, HN.out⟩
        case measure => simp [intOf]; omega
    · obtain rfl : i = 6 := by omega
      go_wp2
      go_ret
      exact ⟨by rw [unS_no HF.out]; rfl, HB.out⟩
set_option maxRecDepth 100000 in
set_option maxHeartbeats 4000000 in
theorem rLevel_c (x : ByteArray) (w : World) : Calls Try.prog 73 #[.string x] w fun e w' => e = .returned (.tuple #[.int .i64 ((biL (L x)).2 : Int), .int .i64 (biL (L x)).1]) ∧ Below w.heap.size w w' := by
  go_enter Try.func73, Try.ntmps73
  go_wp2
  obtain ⟨W, hW⟩ : ∃ W, W = ((w.alloc (.cells (strs biS).toArray 9)).alloc (.cells (ints biN).toArray 3)).alloc (.cells (ints biO).toArray 3) := ⟨_, rfl⟩
  have HC : Hid (∀ (i : Nat) (y : List UInt8), biS[i]? = some y → W.cell? ⟨w.heap.size, i, none⟩ = some (.string (S y))) := fun i y h => by
    rw [hW, (bel (bxS (w := w.alloc (.cells (strs biS).toArray 9)) (o := .cells (ints biN).toArray 3)) (bxS (o := .cells (ints biO).toArray 3))).cell (p := ⟨w.heap.size, i, none⟩) (by simp)]
    exact strs_cell w biS _ h
  have HC2 : Hid (∀ (i n : Nat), biN[i]? = some n → W.cell? ⟨w.heap.size + 1, i, none⟩ = some (.int .i64 (n : Int))) := fun i y h => by
    have e := bxS (w := (w.alloc (.cells (strs biS).toArray 9)).alloc (.cells (ints biN).toArray 3)) (o := .cells (ints biO).toArray 3)
    rw [hW, e.cell (p := ⟨w.heap.size + 1, i, none⟩) (by simp)]
    have := cells_in (w := w.alloc (.cells (strs biS).toArray 9)) (t := 3) i _ (ints_at h)
    simpa using this
  have HC3 : Hid (∀ (i n : Nat), biO[i]? = some n → W.cell? ⟨w.heap.size + 1 + 1, i, none⟩ = some (.int .i64 (n : Int))) := fun i y h => by
    have := cells_in (w := (w.alloc (.cells (strs biS).toArray 9)).alloc (.cells (ints biN).toArray 3)) (t := 3) i _ (ints_at h)
    rw [hW]
    simpa using this
  have HB : Hid (Below w.heap.size w W) := hW ▸ bel (bel bxS bxS) bxS
  have hlt : w.heap.size + 1 + 1 < W.heap.size := by rw [hW]; simp
  have hW2 : W = ((w.alloc (.cells #[.string ⟨#[124, 124]⟩, .string ⟨#[38, 38]⟩, .string ⟨#[124]⟩, .string ⟨#[94]⟩, .string ⟨#[38]⟩, .string ⟨#[61, 61]⟩, .string ⟨#[33, 61]⟩, .string ⟨#[60]⟩, .string ⟨#[60, 61]⟩, .string ⟨#[62]⟩, .string ⟨#[62, 61]⟩, .string ⟨#[60, 60]⟩, .string ⟨#[62, 62]⟩, .string ⟨#[43]⟩, .string ⟨#[45]⟩] 9)).alloc (.cells #[.int .i64 1, .int .i64 2, .int .i64 3, .int .i64 4, .int .i64 5, .int .i64 6, .int .i64 6, .int .i64 7, .int .i64 7, .int .i64 7, .int .i64 7, .int .i64 8, .int .i64 8, .int .i64 9, .int .i64 9] 3)).alloc (.cells #[.int .i64 27, .int .i64 26, .int .i64 25, .int .i64 24, .int .i64 23, .int .i64 21, .int .i64 22, .int .i64 17, .int .i64 18, .int .i64 19, .int .i64 20, .int .i64 15, .int .i64 16, .int .i64 13, .int .i64 14] 3) := hW
  rw [← hW2]
  clear hW hW2
  go_loop [7] (fun iv => ∃ i : Nat, i ≤ 15 ∧ iv = .int .i64 i ∧ Hid ((biS.take i).contains (L x) = false)) (fun iv => 15 - (intOf iv).toNat)
  case atStart => exact ⟨0, by omega, rfl, rfl⟩
  case round =>
    obtain ⟨i, hi, rfl, HF⟩ := hrel
    by_cases hlt2 : i < 15
    · obtain ⟨y, hy⟩ : ∃ y, biS[i]? = some y := ⟨_, List.getElem?_eq_getElem (show i < biS.length from hlt2)⟩
      have hc := HC.out i y hy
      have hiI : (i : Int) < 15 := by omega
      by_cases he : y = L x
      · have e1 : ((S y).toList == x.toList) = true := by rw [he, S_L]; simp
        obtain ⟨n, o, hn, ho, hno⟩ := biS_at (he ▸ hy)
        have hc2 := HC2.out i n hn
        have hc3 := HC3.out i o ho
        have HE : Hid _ := hno
        obtain ⟨sy, hsy⟩ : ∃ sy, sy = S y := ⟨_, rfl⟩
        rw [← hsy] at hc e1
        clear hy he hsy hn ho hno
        go_wp2
        go_region
        all_goals go_wp2
        all_goals
          go_ret2
          exact ⟨by rw [HE.out]; rfl, HB.out.drew⟩
      · have e1 := str_ne he
        have HN : Hid _ := take_any hy HF.out he
        obtain ⟨sy, hsy⟩ : ∃ sy, sy = S y := ⟨_, rfl⟩
        rw [← hsy] at hc e1
        clear hy he hsy
        go_wp2
        go_round
        case rel => exact ⟨i + 1, by omega, by go_num, HN.out⟩
        case measure => simp [intOf]; omega
    · obtain rfl : i = 15 := by omega
      go_wp2
      go_ret2
      exact ⟨by rw [biS_no HF.out]; rfl, HB.out⟩
theorem res_cellsD {w w1 : World} {a b c : Value} {t : TypeId} (h : Below (w.alloc (.cells #[a, b, c] t)).drew.heap.size (w.alloc (.cells #[a, b, c] t)).drew w1) :
    w1.cell? ⟨w.heap.size, 0, none⟩ = some a ∧ w1.cell? ⟨w.heap.size, 1, none⟩ = some b ∧ w1.cell? ⟨w.heap.size, 2, none⟩ = some c ∧ (∀ j, w1.frozen? ⟨w.heap.size, j, none⟩ = false) ∧ w.heap.size < w1.heap.size := by
  have e : w1.heap[w.heap.size]? = some (.cells #[a, b, c] t (0, 0)) := (h.block w.heap.size (by show _ < (w.alloc _).heap.size; simp)).trans (by show (w.heap.push _)[w.heap.size]? = _; simp)
  exact ⟨by rw [Lib.cell_of_heap e]; rfl, by rw [Lib.cell_of_heap e]; rfl, by rw [Lib.cell_of_heap e]; rfl, fun j => Lib.frozen_of_heap e j, heap_lt e⟩
set_option maxRecDepth 100000 in
set_option maxHeartbeats 4000000 in
theorem rBegins {b g cap k : Nat} {l : List Tok} {w : World} (h : Rq b g cap l k w) : Calls Try.prog 55 #[.pointer (some ⟨b, 0, none⟩)] w fun e w' => e = .returned (.bool (bgK l k)) ∧ Below w.heap.size w w' := by
  obtain ⟨c0, c1, c3, cf⟩ := h.at_
  obtain ⟨d0, d1, d2⟩ := h.tok h.k
  have HM := fun w' (hb : Below w.heap.size w w') => rNamed (h.below hb)
  have hk := h.k
  have hlt := h.lt
  have hb := h.blt
  have hne := h.ne
  obtain ⟨n, hn⟩ : ∃ n, n = l.length := ⟨_, rfl⟩
  rw [← hn] at c0 hk
  unfold bgK
  obtain ⟨nm, hnm⟩ : ∃ nm, nm = nmK l k := ⟨_, rfl⟩
  rw [← hnm] at HM ⊢
  obtain ⟨⟨kk, tx, p⟩, ht⟩ : ∃ t, t = tk l k := ⟨_, rfl⟩
  rw [← ht] at d0 d1 d2 ⊢
  simp only at d0 d1 d2 ⊢
  have HU := fun w' => rUnary_c (S tx) w'
  rw [L_S] at HU
  have q40 : ((S tx).toList == [40]) = (tx == [40]) := by rw [toL, L_S]
  have q123 : ((S tx).toList == [123]) = (tx == [123]) := by rw [toL, L_S]
  obtain ⟨sx, hsx⟩ : ∃ sx, sx = S tx := ⟨_, rfl⟩
  rw [← hsx] at d1 HU q40 q123
  clear h hn ht hsx hnm
  have hkI : (k : Int) < (n : Int) := by omega
  by_cases h3 : kk = 3
  · subst h3
    rw [if_pos rfl]
    obtain ⟨u, hu⟩ : ∃ u, u = unL tx := ⟨_, rfl⟩
    rw [← hu] at HU ⊢
    cases e1 : (tx == [40]) <;> cases e2 : (tx == [123]) <;> rw [e1] at q40 <;> rw [e2] at q123 <;> clear e1 e2 hu
    all_goals
      by_cases hp : 0 < u
      · have hd : decide (0 < u) = true := by simpa using hp
        rw [hd]
        clear hd
        go_enter Try.func55, Try.ntmps55
        go_wp2
        go_region
        all_goals go_wp2_with (first
          | (go_at_call 71; refine (HU _).mono ?_; rintro e w2 ⟨rfl, hb2⟩; obtain ⟨r0, r1, r2, _⟩ := res_cellsD hb2))
        all_goals
          go_ret
          exact ⟨rfl, bel bxS.drew hb2⟩
      · have hd : decide (0 < u) = false := by simpa using hp
        rw [hd]
        clear hd
        go_enter Try.func55, Try.ntmps55
        go_wp2
        go_region
        all_goals go_wp2_with (first
          | (go_at_call 71; refine (HU _).mono ?_; rintro e w2 ⟨rfl, hb2⟩; obtain ⟨r0, r1, r2, _⟩ := res_cellsD hb2))
        all_goals
          go_ret
          refine ⟨?_, bel bxS.drew hb2⟩
          first | rfl | (show Ending.returned (Value.bool (decide (0 < u))) = _; rw [decide_eq_false (by omega)]; rfl)
  · rw [if_neg h3]
    have b3 : (kk == 3) = false := by simpa using h3
    by_cases h2 : kk = 2
    · subst h2
      clear h3
      go_enter Try.func55, Try.ntmps55
      go_wp2
      go_region
      all_goals go_wp2_with fail
      all_goals
        go_ret
        exact ⟨rfl, bxS.drew⟩
    · have b2 : (kk == 2) = false := by simpa using h2
      clear h3 h2
      go_enter Try.func55, Try.ntmps55
      go_wp2
      go_region
      all_goals go_wp2_with (first
        | (go_at_call 46; refine (HM _ bxS.drew).mono ?_; rintro e w2 ⟨rfl, hb2⟩))
      all_goals
        go_ret
        exact ⟨by rw [b2]; rfl, bel bxS.drew hb2⟩
end Go.Proofs.Ytpnhefjiobnelaa
