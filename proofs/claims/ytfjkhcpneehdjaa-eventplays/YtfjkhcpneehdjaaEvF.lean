/- The library's heap over a row of events: up. -/
import Derived.Test.YtfjkhcpneehdjaaEvE
namespace Go.Proofs.Ytfjkhcpneehdjaa
open Go.RowKit Qu Go.Maps
set_option linter.unusedVariables false
set_option linter.unusedSimpArgs false

theorem less_n {B gb cap n0 : Nat} {l : List Ev} (hl : l.length = n0) (i k : Nat) (w : World) (h : EvR B w gb cap l) (hi : i < n0) (hk : k < n0) (hn : n0 ≤ 1000000) : Calls Try.prog 52 #[.slice (some ⟨gb, 0, none⟩) n0 cap, .int .i64 (i : Int), .int .i64 (k : Int)] w fun e w' => e = .returned (.bool (decide (lt (g l i) (g l k)))) ∧ Below w.heap.size w w' := by
  subst hl; exact less_c B gb cap l i k w h hi hk (by omega)
theorem swap_n {B gb cap n0 : Nat} {l : List Ev} (hl : l.length = n0) (i k : Nat) (w : World) (h : EvR B w gb cap l) (hi : i < n0) (hk : k < n0) : Calls Try.prog 53 #[.slice (some ⟨gb, 0, none⟩) n0 cap, .int .i64 (i : Int), .int .i64 (k : Int)] w fun e w' => e = .returned (.tuple #[]) ∧ EvR B w' gb cap (swp l i k) ∧ But gb w w' := by
  subst hl; exact swap_c B gb cap l i k w h hi hk
/-- the heap's row, reached by a pointer -/
structure Hr (B gb cap n0 : Nat) (a : Addr) (W : World) (l : List Ev) : Prop where
  r : EvR B W gb cap l
  n : l.length = n0
  c : W.cell? a = some (.slice (some ⟨gb, 0, none⟩) n0 cap)
  ne : a.block ≠ gb
theorem Hr.lt {B gb cap n0 : Nat} {a : Addr} {W : World} {l : List Ev} (h : Hr B gb cap n0 a W l) : a.block < W.heap.size := World.block_lt_of_cell? W a h.c
theorem Hr.below {B gb cap n0 : Nat} {a : Addr} {W W' : World} {l : List Ev} (h : Hr B gb cap n0 a W l) (hb : Below W.heap.size W W') : Hr B gb cap n0 a W' l :=
  ⟨h.r.at_ (hb.block gb h.r.lt), h.n, (World.cell?_of_block (hb.block _ h.lt)).trans h.c, h.ne⟩
theorem Hr.swap {B gb cap n0 : Nat} {a : Addr} {W W' : World} {l : List Ev} (h : Hr B gb cap n0 a W l) {i k : Nat} (hr : EvR B W' gb cap (swp l i k)) (hb : But gb W W') : Hr B gb cap n0 a W' (swp l i k) :=
  ⟨hr, by rw [swp_len]; exact h.n, (hb.cell h.lt h.ne).trans h.c, h.ne⟩
theorem half (j : Nat) (hj : 1 ≤ j) : Int.tdiv ((j : Int) - 1) 2 = (((j - 1) / 2 : Nat) : Int) := by
  rw [show (j : Int) - 1 = ((j - 1 : Nat) : Int) by omega]; rfl
set_option maxHeartbeats 4000000 in
theorem up_c (B gb cap n0 : Nat) (a : Addr) (l : List Ev) (n j0 : Nat) (w : World) (h : Hr B gb cap n0 a w l) (hj : j0 < n) (hn : n ≤ n0) (hs : n0 ≤ 1000000) (ho : Ho l n j0) (hc : Ch l n j0) :
    Calls Try.prog 33 #[.iface 63 (.pointer (some a)), .int .i64 (j0 : Int)] w fun e w' => e = .returned (.tuple #[]) ∧ ∃ l', Hid (Wk l l' n) ∧ Hid (Hp l' n) ∧ Hid (Hr B gb cap n0 a w' l') ∧ Hid (But gb w w') := by
  have H0 : Hid (Hr B gb cap n0 a w l ∧ Ho l n j0 ∧ Ch l n j0) := ⟨h, ho, hc⟩
  clear h ho hc
  go_enter Try.func33, Try.ntmps33
  go_wp2
  go_loopw [1] (fun s1 W => ∃ (j : Nat) (l' : List Ev), j < n ∧ s1 = .int .i64 j ∧ Hid (Wk l l' n) ∧ Hid (Ho l' n j) ∧ Hid (Ch l' n j) ∧ Hid (Hr B gb cap n0 a W l') ∧ Hid (But gb w W)) (fun s1 W => (intOf s1).toNat)
  case atStart => exact ⟨j0, l, hj, rfl, Wk.refl _ _, H0.out.2.1, H0.out.2.2, H0.out.1, But.refl _ _⟩
  case round =>
    clear H0
    obtain ⟨j, l', hjn, rfl, HW, HO, HC, HR, HB⟩ := hrel
    rcases Nat.eq_zero_or_pos j with hj0 | hj1
    · subst hj0
      go_wp2
      go_end0
      exact ⟨rfl, l', HW.out, up_end HO.out HC.out (Or.inl rfl), HR.out, HB.out⟩
    · obtain ⟨i, hi⟩ : ∃ i, i = (j - 1) / 2 := ⟨_, rfl⟩
      have hij : i < j := by omega
      have eh : Int.tdiv ((j : Int) - 1) 2 = (i : Int) := by rw [hi]; exact half j hj1
      have ne1 : ((i : Int) == (j : Int)) = false := by rw [beq_eq_false_iff_ne]; omega
      have m1 := mLess a (some ⟨gb, 0, none⟩) n0 cap wr HR.out.c
      have HLs : Hid (Calls Try.prog 52 #[.slice (some ⟨gb, 0, none⟩) n0 cap, .int .i64 (j : Int), .int .i64 (i : Int)] wr fun e w' => e = .returned (.bool (decide (lt (g l' j) (g l' i)))) ∧ Below wr.heap.size wr w') := less_n HR.out.n j i wr HR.out.r (by omega) (by omega) hs
      have hi' : Hid (i = (j - 1) / 2) := hi
      clear hi
      by_cases hlt : lt (g l' j) (g l' i)
      · have HX : Hid (lt (g l' j) (g l' i)) := hlt
        rw [decide_eq_true hlt] at HLs
        clear hlt
        go_wp2_with (first
          | (go_at_call 52; refine HLs.out.mono ?_; rintro e w2 ⟨rfl, hb2⟩; have hr2 := HR.out.below hb2; have m2 := mSwap a (some ⟨gb, 0, none⟩) n0 cap w2 hr2.c; have HS : Hid (Hr B gb cap n0 a w2 l') := hr2; have HB2 : Hid (Below wr.heap.size wr w2) := hb2; clear hr2 hb2)
          | (go_at_call 53; refine (swap_n HS.out.n i j _ HS.out.r (by omega) (by omega)).mono ?_; rintro e w3 ⟨rfl, hr3, hb3⟩))
        refine ⟨⟨i, swp l' i j, by omega, rfl, ?_, ?_, ?_, HS.out.swap hr3 hb3, (HB.out.below HB2.out).trans hb3⟩, by simp [intOf]; omega⟩
        · exact HW.out.swp (by omega) hjn (by rw [HR.out.n]; exact hn)
        · have k := up_step HO.out HC.out hj1 hjn (by rw [HR.out.n]; exact hn) (by rw [← hi'.out]; exact HX.out)
          rw [← hi'.out] at k
          exact k.1
        · have k := up_step HO.out HC.out hj1 hjn (by rw [HR.out.n]; exact hn) (by rw [← hi'.out]; exact HX.out)
          rw [← hi'.out] at k
          exact k.2
      · have HX : Hid (¬ lt (g l' j) (g l' i)) := hlt
        rw [decide_eq_false hlt] at HLs
        clear hlt
        go_wp2_with (first
          | (go_at_call 52; refine HLs.out.mono ?_; rintro e w2 ⟨rfl, hb2⟩))
        go_end0
        exact ⟨rfl, l', HW.out, up_end HO.out HC.out (Or.inr (by rw [← hi'.out]; exact HX.out)), HR.out.below hb2, HB.out.below hb2⟩
end Go.Proofs.Ytfjkhcpneehdjaa
