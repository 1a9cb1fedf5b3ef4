/- The library's heap over a row of events: down. -/
import Derived.Test.YtfjkhcpneehdjaaEvF
namespace Go.Proofs.Ytfjkhcpneehdjaa
open Go.RowKit Qu Go.Maps
set_option linter.unusedVariables false
set_option linter.unusedSimpArgs false

/-- the lesser child of a place: j, or the one behind it -/
structure Lc (l : List Ev) (n i j : Nat) : Prop where
  lo : 1 ≤ j
  hi : j < n
  pa : (j - 1) / 2 = i
  mi : ∀ c, 1 ≤ c → c < n → (c - 1) / 2 = i → le (g l j) (g l c)
theorem Lc.left {l : List Ev} {n i : Nat} (h : 2 * i + 1 < n) (hr : 2 * i + 1 + 1 < n → ¬ lt (g l (2 * i + 1 + 1)) (g l (2 * i + 1))) : Lc l n i (2 * i + 1) :=
  ⟨by omega, h, by omega, fun c c1 cn cp => by
    rcases (by omega : c = 2 * i + 1 ∨ c = 2 * i + 1 + 1) with e | e
    · subst e; exact le_refl _
    · subst e; exact hr cn⟩
theorem Lc.right {l : List Ev} {n i : Nat} (h : 2 * i + 1 + 1 < n) (hr : lt (g l (2 * i + 1 + 1)) (g l (2 * i + 1))) : Lc l n i (2 * i + 1 + 1) :=
  ⟨by omega, h, by omega, fun c c1 cn cp => by
    rcases (by omega : c = 2 * i + 1 ∨ c = 2 * i + 1 + 1) with e | e
    · subst e; exact lt_le hr
    · subst e; exact le_refl _⟩
/-- where a walk down is -/
structure Dn (l0 l : List Ev) (n i0 i : Nat) : Prop where
  w : Wk l0 l n
  o : Ho l n i
  k : (i = i0 ∧ l = l0) ∨ (i0 < i ∧ le (g l ((i - 1) / 2)) (g l i))
/-- how it ends -/
def DnE (l0 l : List Ev) (n i0 : Nat) (b : Bool) : Prop := Wk l0 l n ∧ ((b = true ∧ Hp l n) ∨ (b = false ∧ l = l0 ∧ Ch l0 n i0))
theorem Dn.step {l0 l : List Ev} {n i0 i j : Nat} (h : Dn l0 l n i0 i) (hl : n ≤ l.length) (hj : Lc l n i j) (hlt : lt (g l j) (g l i)) : Dn l0 (swp l i j) n i0 j := by
  have hp := hj.pa
  have h1 := hj.lo
  have h2 := hj.hi
  obtain ⟨a, b⟩ := down_step h.o hj.lo hj.hi hj.pa hl hlt hj.mi
  refine ⟨h.w.swp (by omega) (by omega) hl, a, Or.inr ⟨?_, b⟩⟩
  rcases h.k with ⟨e, _⟩ | ⟨e, _⟩ <;> omega
theorem Dn.stop {l0 l : List Ev} {n i0 i : Nat} (h : Dn l0 l n i0 i) (hc : Ch l n i) : DnE l0 l n i0 (decide (i0 < i)) := by
  refine ⟨h.w, ?_⟩
  rcases h.k with ⟨rfl, rfl⟩ | ⟨e, k⟩
  · exact Or.inr ⟨by simp, rfl, hc⟩
  · exact Or.inl ⟨by simp [e], down_end h.o hc fun _ => k⟩
theorem Lc.stop {l : List Ev} {n i j : Nat} (hj : Lc l n i j) (hlt : ¬ lt (g l j) (g l i)) : Ch l n i := fun c c1 cn cp => le_trans hlt (hj.mi c c1 cn cp)
theorem no_ch {l : List Ev} {n i : Nat} (h : n ≤ 2 * i + 1) : Ch l n i := fun c c1 cn cp => by omega
theorem less_z {B gb cap n0 : Nat} {l : List Ev} (hl : l.length = n0) (i k : Nat) (w : World) (h : EvR B w gb cap l) (hi : i < n0) (hk : k < n0) (hn : n0 ≤ 1000000) {x y : Int} (hx : x = (i : Int)) (hy : y = (k : Int)) : Calls Try.prog 52 #[.slice (some ⟨gb, 0, none⟩) n0 cap, .int .i64 x, .int .i64 y] w fun e w' => e = .returned (.bool (decide (lt (g l i) (g l k)))) ∧ Below w.heap.size w w' := by
  subst hx hy; exact less_n hl i k w h hi hk hn
theorem swap_z {B gb cap n0 : Nat} {l : List Ev} (hl : l.length = n0) (i k : Nat) (w : World) (h : EvR B w gb cap l) (hi : i < n0) (hk : k < n0) {x y : Int} (hx : x = (i : Int)) (hy : y = (k : Int)) : Calls Try.prog 53 #[.slice (some ⟨gb, 0, none⟩) n0 cap, .int .i64 x, .int .i64 y] w fun e w' => e = .returned (.tuple #[]) ∧ EvR B w' gb cap (swp l i k) ∧ But gb w w' := by
  subst hx hy; exact swap_n hl i k w h hi hk
theorem belT {a b c : World} (h : Below a.heap.size a b) (k : Below b.heap.size b c) : Below a.heap.size a c := ⟨k.os.trans h.os, k.tape.trans h.tape, k.output.trans h.output, Nat.le_trans h.size k.size, fun i hi => (k.block i (Nat.lt_of_lt_of_le hi h.size)).trans (h.block i hi)⟩
set_option maxHeartbeats 8000000 in
theorem down_c (B gb cap n0 : Nat) (a : Addr) (l : List Ev) (n i0 : Nat) (w : World) (h : Hr B gb cap n0 a w l) (hi : i0 ≤ n) (hn : n ≤ n0) (hs : n0 ≤ 1000000) (ho : Ho l n i0) :
    Calls Try.prog 34 #[.iface 63 (.pointer (some a)), .int .i64 (i0 : Int), .int .i64 (n : Int)] w fun e w' => ∃ b, e = .returned (.bool b) ∧ ∃ l', Hid (DnE l l' n i0 b) ∧ Hid (Hr B gb cap n0 a w' l') ∧ Hid (But gb w w') := by
  have H0 : Hid (Hr B gb cap n0 a w l ∧ Ho l n i0) := ⟨h, ho⟩
  clear h ho
  go_enter Try.func34, Try.ntmps34
  go_wp2
  go_loopw [7] (fun s7 W => ∃ (i : Nat) (l' : List Ev), i ≤ n ∧ s7 = .int .i64 i ∧ Hid (Dn l l' n i0 i) ∧ Hid (Hr B gb cap n0 a W l') ∧ Hid (But gb w W)) (fun s7 W => n - (intOf s7).toNat)
  case atStart => exact ⟨i0, l, hi, rfl, ⟨Wk.refl _ _, H0.out.2, Or.inl ⟨rfl, rfl⟩⟩, H0.out.1, But.refl _ _⟩
  case round =>
    clear H0
    obtain ⟨i, l', hin, rfl, HD, HR, HB⟩ := hrel
    have m1 := mLess a (some ⟨gb, 0, none⟩) n0 cap wr HR.out.c
    by_cases h1 : 2 * i + 1 < n
    · have j1 : (decide ((n : Int) ≤ 2 * (i : Int) + 1)) = false := by rw [decide_eq_false_iff_not]; omega
      have j0 : (decide (2 * (i : Int) + 1 < 0)) = false := by rw [decide_eq_false_iff_not]; omega
      by_cases h2 : 2 * i + 1 + 1 < n
      · have j2 : (decide (2 * (i : Int) + 1 + 1 < (n : Int))) = true := by rw [decide_eq_true_eq]; omega
        have HLs : Hid (Calls Try.prog 52 #[.slice (some ⟨gb, 0, none⟩) n0 cap, .int .i64 (2 * (i : Int) + 1 + 1), .int .i64 (2 * (i : Int) + 1)] wr fun e w' => e = .returned (.bool (decide (lt (g l' (2 * i + 1 + 1)) (g l' (2 * i + 1))))) ∧ Below wr.heap.size wr w') := less_z HR.out.n (2 * i + 1 + 1) (2 * i + 1) wr HR.out.r (by omega) (by omega) hs (by omega) (by omega)
        by_cases h3 : lt (g l' (2 * i + 1 + 1)) (g l' (2 * i + 1))
        · have HC : Hid (Lc l' n i (2 * i + 1 + 1)) := Lc.right h2 h3
          rw [decide_eq_true h3] at HLs
          clear h3
          have HLc : Hid (∀ x, Below wr.heap.size wr x → Calls Try.prog 52 #[.slice (some ⟨gb, 0, none⟩) n0 cap, .int .i64 (2 * (i : Int) + 1 + 1), .int .i64 (i : Int)] x fun e w' => e = .returned (.bool (decide (lt (g l' (2 * i + 1 + 1)) (g l' i)))) ∧ Below x.heap.size x w') := fun x hx => less_z HR.out.n (2 * i + 1 + 1) i x (HR.out.below hx).r (by omega) (by omega) hs (by omega) rfl
          by_cases hlt : lt (g l' (2 * i + 1 + 1)) (g l' i)
          · have HX : Hid (lt (g l' (2 * i + 1 + 1)) (g l' i)) := hlt
            rw [decide_eq_true hlt] at HLc
            clear hlt
            go_wp2_with (first
              | (have hq := m3; go_at_call 53; refine (swap_z HS.out.n i (2 * i + 1 + 1) _ HS.out.r (by omega) (by omega) rfl (by omega)).mono ?_; rintro e w4 ⟨rfl, hr4, hb4⟩)
              | (have hq := m2; go_at_call 52; refine (HLc.out _ HBw.out).mono ?_; rintro e w3 ⟨rfl, hb3⟩; have hr3 := HR.out.below (belT HBw.out hb3); have m3 := mSwap a (some ⟨gb, 0, none⟩) n0 cap w3 hr3.c; have HS : Hid (Hr B gb cap n0 a w3 l') := hr3; have HB3 : Hid (But gb w w3) := (HB.out.below HBw.out).below hb3; clear hr3 hb3)
              | (go_at_call 52; refine HLs.out.mono ?_; rintro e w2 ⟨rfl, hb2⟩; have hr2 := HR.out.below hb2; have m2 := mLess a (some ⟨gb, 0, none⟩) n0 cap w2 hr2.c; have HBw : Hid (Below wr.heap.size wr w2) := hb2; clear hr2 hb2))
            refine ⟨⟨2 * i + 1 + 1, swp l' i (2 * i + 1 + 1), by omega, by go_num, HD.out.step (by rw [HR.out.n]; exact hn) HC.out HX.out, HS.out.swap hr4 hb4, HB3.out.trans hb4⟩, by simp [intOf]; omega⟩
          · have HX : Hid (¬ lt (g l' (2 * i + 1 + 1)) (g l' i)) := hlt
            rw [decide_eq_false hlt] at HLc
            clear hlt
            go_wp2_with (first
              | (have hq := m2; go_at_call 52; refine (HLc.out _ HBw.out).mono ?_; rintro e w3 ⟨rfl, hb3⟩; have hr3 := HR.out.below (belT HBw.out hb3); have m3 := mSwap a (some ⟨gb, 0, none⟩) n0 cap w3 hr3.c; have HS : Hid (Hr B gb cap n0 a w3 l') := hr3; have HB3 : Hid (But gb w w3) := (HB.out.below HBw.out).below hb3; clear hr3 hb3)
              | (go_at_call 52; refine HLs.out.mono ?_; rintro e w2 ⟨rfl, hb2⟩; have hr2 := HR.out.below hb2; have m2 := mLess a (some ⟨gb, 0, none⟩) n0 cap w2 hr2.c; have HBw : Hid (Below wr.heap.size wr w2) := hb2; clear hr2 hb2))
            go_ret
            exact ⟨_, rfl, l', HD.out.stop (HC.out.stop HX.out), HS.out, HB3.out⟩
        · have HC : Hid (Lc l' n i (2 * i + 1)) := Lc.left h1 (fun _ => h3)
          rw [decide_eq_false h3] at HLs
          clear h3
          have HLc : Hid (∀ x, Below wr.heap.size wr x → Calls Try.prog 52 #[.slice (some ⟨gb, 0, none⟩) n0 cap, .int .i64 (2 * (i : Int) + 1), .int .i64 (i : Int)] x fun e w' => e = .returned (.bool (decide (lt (g l' (2 * i + 1)) (g l' i)))) ∧ Below x.heap.size x w') := fun x hx => less_z HR.out.n (2 * i + 1) i x (HR.out.below hx).r (by omega) (by omega) hs (by omega) rfl
          by_cases hlt : lt (g l' (2 * i + 1)) (g l' i)
          · have HX : Hid (lt (g l' (2 * i + 1)) (g l' i)) := hlt
            rw [decide_eq_true hlt] at HLc
            clear hlt
            go_wp2_with (first
              | (have hq := m3; go_at_call 53; refine (swap_z HS.out.n i (2 * i + 1) _ HS.out.r (by omega) (by omega) rfl (by omega)).mono ?_; rintro e w4 ⟨rfl, hr4, hb4⟩)
              | (have hq := m2; go_at_call 52; refine (HLc.out _ HBw.out).mono ?_; rintro e w3 ⟨rfl, hb3⟩; have hr3 := HR.out.below (belT HBw.out hb3); have m3 := mSwap a (some ⟨gb, 0, none⟩) n0 cap w3 hr3.c; have HS : Hid (Hr B gb cap n0 a w3 l') := hr3; have HB3 : Hid (But gb w w3) := (HB.out.below HBw.out).below hb3; clear hr3 hb3)
              | (go_at_call 52; refine HLs.out.mono ?_; rintro e w2 ⟨rfl, hb2⟩; have hr2 := HR.out.below hb2; have m2 := mLess a (some ⟨gb, 0, none⟩) n0 cap w2 hr2.c; have HBw : Hid (Below wr.heap.size wr w2) := hb2; clear hr2 hb2))
            refine ⟨⟨2 * i + 1, swp l' i (2 * i + 1), by omega, by go_num, HD.out.step (by rw [HR.out.n]; exact hn) HC.out HX.out, HS.out.swap hr4 hb4, HB3.out.trans hb4⟩, by simp [intOf]; omega⟩
          · have HX : Hid (¬ lt (g l' (2 * i + 1)) (g l' i)) := hlt
            rw [decide_eq_false hlt] at HLc
            clear hlt
            go_wp2_with (first
              | (have hq := m2; go_at_call 52; refine (HLc.out _ HBw.out).mono ?_; rintro e w3 ⟨rfl, hb3⟩; have hr3 := HR.out.below (belT HBw.out hb3); have m3 := mSwap a (some ⟨gb, 0, none⟩) n0 cap w3 hr3.c; have HS : Hid (Hr B gb cap n0 a w3 l') := hr3; have HB3 : Hid (But gb w w3) := (HB.out.below HBw.out).below hb3; clear hr3 hb3)
              | (go_at_call 52; refine HLs.out.mono ?_; rintro e w2 ⟨rfl, hb2⟩; have hr2 := HR.out.below hb2; have m2 := mLess a (some ⟨gb, 0, none⟩) n0 cap w2 hr2.c; have HBw : Hid (Below wr.heap.size wr w2) := hb2; clear hr2 hb2))
            go_ret
            exact ⟨_, rfl, l', HD.out.stop (HC.out.stop HX.out), HS.out, HB3.out⟩
      · have j2 : (decide (2 * (i : Int) + 1 + 1 < (n : Int))) = false := by rw [decide_eq_false_iff_not]; omega
        have HC : Hid (Lc l' n i (2 * i + 1)) := Lc.left h1 (fun h => absurd h h2)
        have HLc : Hid (∀ x, Below wr.heap.size wr x → Calls Try.prog 52 #[.slice (some ⟨gb, 0, none⟩) n0 cap, .int .i64 (2 * (i : Int) + 1), .int .i64 (i : Int)] x fun e w' => e = .returned (.bool (decide (lt (g l' (2 * i + 1)) (g l' i)))) ∧ Below x.heap.size x w') := fun x hx => less_z HR.out.n (2 * i + 1) i x (HR.out.below hx).r (by omega) (by omega) hs (by omega) rfl
        by_cases hlt : lt (g l' (2 * i + 1)) (g l' i)
        · have HX : Hid (lt (g l' (2 * i + 1)) (g l' i)) := hlt
          rw [decide_eq_true hlt] at HLc
          clear hlt
          go_wp2_with (first
            | (have hq := m3; go_at_call 53; refine (swap_z HS.out.n i (2 * i + 1) _ HS.out.r (by omega) (by omega) rfl (by omega)).mono ?_; rintro e w4 ⟨rfl, hr4, hb4⟩)
            | (have hq := m1; go_at_call 52; refine (HLc.out _ (Below.refl _ _)).mono ?_; rintro e w3 ⟨rfl, hb3⟩; have hr3 := HR.out.below (belT (Below.refl _ _) hb3); have m3 := mSwap a (some ⟨gb, 0, none⟩) n0 cap w3 hr3.c; have HS : Hid (Hr B gb cap n0 a w3 l') := hr3; have HB3 : Hid (But gb w w3) := (HB.out.below (Below.refl _ _)).below hb3; clear hr3 hb3))
          refine ⟨⟨2 * i + 1, swp l' i (2 * i + 1), by omega, by go_num, HD.out.step (by rw [HR.out.n]; exact hn) HC.out HX.out, HS.out.swap hr4 hb4, HB3.out.trans hb4⟩, by simp [intOf]; omega⟩
        · have HX : Hid (¬ lt (g l' (2 * i + 1)) (g l' i)) := hlt
          rw [decide_eq_false hlt] at HLc
          clear hlt
          go_wp2_with (first
            | (have hq := m1; go_at_call 52; refine (HLc.out _ (Below.refl _ _)).mono ?_; rintro e w3 ⟨rfl, hb3⟩; have hr3 := HR.out.below (belT (Below.refl _ _) hb3); have m3 := mSwap a (some ⟨gb, 0, none⟩) n0 cap w3 hr3.c; have HS : Hid (Hr B gb cap n0 a w3 l') := hr3; have HB3 : Hid (But gb w w3) := (HB.out.below (Below.refl _ _)).below hb3; clear hr3 hb3))
          go_ret
          exact ⟨_, rfl, l', HD.out.stop (HC.out.stop HX.out), HS.out, HB3.out⟩
    · have j1 : (decide ((n : Int) ≤ 2 * (i : Int) + 1)) = true := by rw [decide_eq_true_eq]; omega
      go_wp2
      go_ret
      exact ⟨_, rfl, l', HD.out.stop (no_ch (by omega)), HR.out, HB.out⟩
end Go.Proofs.Ytfjkhcpneehdjaa
