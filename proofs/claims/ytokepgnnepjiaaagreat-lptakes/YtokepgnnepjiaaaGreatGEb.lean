/- Texts EvF EvG EvH, joined: what each part says stands ahead of it. -/
import Derived.Test.YtokepgnnepjiaaaGreatGEa
/- The library's heap over a row of events: up. -/
namespace Go.Proofs.YtokepgnnepjiaaaGreat.Q
set_option maxRecDepth 100000
open Go.RowKit Qu Go.Maps
set_option linter.unusedVariables false
set_option linter.unusedSimpArgs false

theorem less_n {B gb cap n0 : Nat} {l : List Ev} (hl : l.length = n0) (i k : Nat) (w : World) (h : EvR B w gb cap l) (hi : i < n0) (hk : k < n0) (hn : n0 ≤ 1000000) : Calls Tryz.prog 172 #[.slice (some ⟨gb, 0, none⟩) n0 cap, .int .i64 (i : Int), .int .i64 (k : Int)] w fun e w' => e = .returned (.bool (decide (lt (g l i) (g l k)))) ∧ Below w.heap.size w w' := by
  subst hl; exact less_c B gb cap l i k w h hi hk (by omega)
theorem swap_n {B gb cap n0 : Nat} {l : List Ev} (hl : l.length = n0) (i k : Nat) (w : World) (h : EvR B w gb cap l) (hi : i < n0) (hk : k < n0) : Calls Tryz.prog 173 #[.slice (some ⟨gb, 0, none⟩) n0 cap, .int .i64 (i : Int), .int .i64 (k : Int)] w fun e w' => e = .returned (.tuple #[]) ∧ EvR B w' gb cap (swp l i k) ∧ But gb w w' := by
  subst hl; exact swap_c B gb cap l i k w h hi hk
/-- the heap's row, reached by a pointer -/
structure Hr (B gb cap n0 : Nat) (a : Addr) (W : World) (l : List Ev) : Prop where
  r : EvR B W gb cap l
  n : l.length = n0
  c : W.cell? a = some (.slice (some ⟨gb, 0, none⟩) n0 cap)
  ne : a.block ≠ gb
theorem Hr.lt {B gb cap n0 : Nat} {a : Addr} {W : World} {l : List Ev} (h : Hr B gb cap n0 a W l) : a.block < W.heap.size := World.block_lt_of_cell? W a h.c
theorem Hr.below {B gb cap n0 : Nat} {a : Addr} {W W' : World} {l : List Ev} (h : Hr B gb cap n0 a W l) (hb : Below W.heap.size W W') : Hr B gb cap n0 a W' l :=
  ⟨h.r.at_ (hb.block gb h.r.lt), h.n, (World.cell?_of_block (hb.block _ h.lt)).trans h.c, h.ne⟩
theorem Hr.swap {B gb cap n0 : Nat} {a : Addr} {W W' : World} {l : List Ev} (h : Hr B gb cap n0 a W l) {i k : Nat} (hr : EvR B W' gb cap (swp l i k)) (hb : But gb W W') : Hr B gb cap n0 a W' (swp l i k) :=
  ⟨hr, by rw [swp_len]; exact h.n, (hb.cell h.lt h.ne).trans h.c, h.ne⟩
theorem half (j : Nat) (hj : 1 ≤ j) : Int.tdiv ((j : Int) - 1) 2 = (((j - 1) / 2 : Nat) : Int) := by
  rw [show (j : Int) - 1 = ((j - 1 : Nat) : Int) by omega]; rfl
set_option maxHeartbeats 4000000 in
theorem up_c (B gb cap n0 : Nat) (a : Addr) (l : List Ev) (n j0 : Nat) (w : World) (h : Hr B gb cap n0 a w l) (hj : j0 < n) (hn : n ≤ n0) (hs : n0 ≤ 1000000) (ho : Ho l n j0) (hc : Ch l n j0) :
    Calls Tryz.prog 80 #[.iface 104 (.pointer (some a)), .int .i64 (j0 : Int)] w fun e w' => e = .returned (.tuple #[]) ∧ ∃ l', Hid (Wk l l' n) ∧ Hid (Hp l' n) ∧ Hid (Hr B gb cap n0 a w' l') ∧ Hid (But gb w w') := by
  have H0 : Hid (Hr B gb cap n0 a w l ∧ Ho l n j0 ∧ Ch l n j0) := ⟨h, ho, hc⟩
  clear h ho hc
  go_enter Tryz.func80, Tryz.ntmps80
  go_wp2
  go_loopw [1] (fun s1 W => ∃ (j : Nat) (l' : List Ev), j < n ∧ s1 = .int .i64 j ∧ Hid (Wk l l' n) ∧ Hid (Ho l' n j) ∧ Hid (Ch l' n j) ∧ Hid (Hr B gb cap n0 a W l') ∧ Hid (But gb w W)) (fun s1 W => (intOf s1).toNat)
  case atStart => exact ⟨j0, l, hj, rfl, Wk.refl _ _, H0.out.2.1, H0.out.2.2, H0.out.1, But.refl _ _⟩
  case round =>
    clear H0
    obtain ⟨j, l', hjn, rfl, HW, HO, HC, HR, HB⟩ := hrel
    rcases Nat.eq_zero_or_pos j with hj0 | hj1
    · subst hj0
      go_wp2
      go_end0
      exact ⟨rfl, l', HW.out, up_end HO.out HC.out (Or.inl rfl), HR.out, HB.out⟩
    · obtain ⟨i, hi⟩ : ∃ i, i = (j - 1) / 2 := ⟨_, rfl⟩
      have hij : i < j := by omega
      have eh : Int.tdiv ((j : Int) - 1) 2 = (i : Int) := by rw [hi]; exact half j hj1
      have ne1 : ((i : Int) == (j : Int)) = false := by rw [beq_eq_false_iff_ne]; omega
      have m1 := mLess a (some ⟨gb, 0, none⟩) n0 cap wr HR.out.c
      have HLs : Hid (Calls Tryz.prog 172 #[.slice (some ⟨gb, 0, none⟩) n0 cap, .int .i64 (j : Int), .int .i64 (i : Int)] wr fun e w' => e = .returned (.bool (decide (lt (g l' j) (g l' i)))) ∧ Below wr.heap.size wr w') := less_n HR.out.n j i wr HR.out.r (by omega) (by omega) hs
      have hi' : Hid (i = (j - 1) / 2) := hi
      clear hi
      by_cases hlt : lt (g l' j) (g l' i)
      · have HX : Hid (lt (g l' j) (g l' i)) := hlt
        rw [decide_eq_true hlt] at HLs
        clear hlt
        go_wp2_with (first
          | (go_at_call 172; refine HLs.out.mono ?_; rintro e w2 ⟨rfl, hb2⟩; have hr2 := HR.out.below hb2; have m2 := mSwap a (some ⟨gb, 0, none⟩) n0 cap w2 hr2.c; have HS : Hid (Hr B gb cap n0 a w2 l') := hr2; have HB2 : Hid (Below wr.heap.size wr w2) := hb2; clear hr2 hb2)
          | (go_at_call 173; refine (swap_n HS.out.n i j _ HS.out.r (by omega) (by omega)).mono ?_; rintro e w3 ⟨rfl, hr3, hb3⟩))
        refine ⟨⟨i, swp l' i j, by omega, rfl, ?_, ?_, ?_, HS.out.swap hr3 hb3, (HB.out.below HB2.out).trans hb3⟩, by simp [intOf]; omega⟩
        · exact HW.out.swp (by omega) hjn (by rw [HR.out.n]; exact hn)
        · have k := up_step HO.out HC.out hj1 hjn (by rw [HR.out.n]; exact hn) (by rw [← hi'.out]; exact HX.out)
          rw [← hi'.out] at k
          exact k.1
        · have k := up_step HO.out HC.out hj1 hjn (by rw [HR.out.n]; exact hn) (by rw [← hi'.out]; exact HX.out)
          rw [← hi'.out] at k
          exact k.2
      · have HX : Hid (¬ lt (g l' j) (g l' i)) := hlt
        rw [decide_eq_false hlt] at HLs
        clear hlt
        go_wp2_with (first
          | (go_at_call 172; refine HLs.out.mono ?_; rintro e w2 ⟨rfl, hb2⟩))
        go_end0
        exact ⟨rfl, l', HW.out, up_end HO.out HC.out (Or.inr (by rw [← hi'.out]; exact HX.out)), HR.out.below hb2, HB.out.below hb2⟩
end Go.Proofs.YtokepgnnepjiaaaGreat.Q

/- The library's heap over a row of events: down. -/
namespace Go.Proofs.YtokepgnnepjiaaaGreat.Q
set_option maxRecDepth 100000
open Go.RowKit Qu Go.Maps
set_option linter.unusedVariables false
set_option linter.unusedSimpArgs false

/-- the lesser child of a place: j, or the one behind it -/
structure Lc (l : List Ev) (n i j : Nat) : Prop where
  lo : 1 ≤ j
  hi : j < n
  pa : (j - 1) / 2 = i
  mi : ∀ c, 1 ≤ c → c < n → (c - 1) / 2 = i → le (g l j) (g l c)
theorem Lc.left {l : List Ev} {n i : Nat} (h : 2 * i + 1 < n) (hr : 2 * i + 1 + 1 < n → ¬ lt (g l (2 * i + 1 + 1)) (g l (2 * i + 1))) : Lc l n i (2 * i + 1) :=
  ⟨by omega, h, by omega, fun c c1 cn cp => by
    rcases (by omega : c = 2 * i + 1 ∨ c = 2 * i + 1 + 1) with e | e
    · subst e; exact le_refl _
    · subst e; exact hr cn⟩
theorem Lc.right {l : List Ev} {n i : Nat} (h : 2 * i + 1 + 1 < n) (hr : lt (g l (2 * i + 1 + 1)) (g l (2 * i + 1))) : Lc l n i (2 * i + 1 + 1) :=
  ⟨by omega, h, by omega, fun c c1 cn cp => by
    rcases (by omega : c = 2 * i + 1 ∨ c = 2 * i + 1 + 1) with e | e
    · subst e; exact lt_le hr
    · subst e; exact le_refl _⟩
/-- where a walk down is -/
structure Dn (l0 l : List Ev) (n i0 i : Nat) : Prop where
  w : Wk l0 l n
  o : Ho l n i
  k : (i = i0 ∧ l = l0) ∨ (i0 < i ∧ le (g l ((i - 1) / 2)) (g l i))
/-- how it ends -/
def DnE (l0 l : List Ev) (n i0 : Nat) (b : Bool) : Prop := Wk l0 l n ∧ ((b = true ∧ Hp l n) ∨ (b = false ∧ l = l0 ∧ Ch l0 n i0))
theorem Dn.step {l0 l : List Ev} {n i0 i j : Nat} (h : Dn l0 l n i0 i) (hl : n ≤ l.length) (hj : Lc l n i j) (hlt : lt (g l j) (g l i)) : Dn l0 (swp l i j) n i0 j := by
  have hp := hj.pa
  have h1 := hj.lo
  have h2 := hj.hi
  obtain ⟨a, b⟩ := down_step h.o hj.lo hj.hi hj.pa hl hlt hj.mi
  refine ⟨h.w.swp (by omega) (by omega) hl, a, Or.inr ⟨?_, b⟩⟩
  rcases h.k with ⟨e, _⟩ | ⟨e, _⟩ <;> omega
theorem Dn.stop {l0 l : List Ev} {n i0 i : Nat} (h : Dn l0 l n i0 i) (hc : Ch l n i) : DnE l0 l n i0 (decide (i0 < i)) := by
  refine ⟨h.w, ?_⟩
  rcases h.k with ⟨rfl, rfl⟩ | ⟨e, k⟩
  · exact Or.inr ⟨by simp, rfl, hc⟩
  · exact Or.inl ⟨by simp [e], down_end h.o hc fun _ => k⟩
theorem Lc.stop {l : List Ev} {n i j : Nat} (hj : Lc l n i j) (hlt : ¬ lt (g l j) (g l i)) : Ch l n i := fun c c1 cn cp => le_trans hlt (hj.mi c c1 cn cp)
theorem no_ch {l : List Ev} {n i : Nat} (h : n ≤ 2 * i + 1) : Ch l n i := fun c c1 cn cp => by omega
theorem less_z {B gb cap n0 : Nat} {l : List Ev} (hl : l.length = n0) (i k : Nat) (w : World) (h : EvR B w gb cap l) (hi : i < n0) (hk : k < n0) (hn : n0 ≤ 1000000) {x y : Int} (hx : x = (i : Int)) (hy : y = (k : Int)) : Calls Tryz.prog 172 #[.slice (some ⟨gb, 0, none⟩) n0 cap, .int .i64 x, .int .i64 y] w fun e w' => e = .returned (.bool (decide (lt (g l i) (g l k)))) ∧ Below w.heap.size w w' := by
  subst hx hy; exact less_n hl i k w h hi hk hn
theorem swap_z {B gb cap n0 : Nat} {l : List Ev} (hl : l.length = n0) (i k : Nat) (w : World) (h : EvR B w gb cap l) (hi : i < n0) (hk : k < n0) {x y : Int} (hx : x = (i : Int)) (hy : y = (k : Int)) : Calls Tryz.prog 173 #[.slice (some ⟨gb, 0, none⟩) n0 cap, .int .i64 x, .int .i64 y] w fun e w' => e = .returned (.tuple #[]) ∧ EvR B w' gb cap (swp l i k) ∧ But gb w w' := by
  subst hx hy; exact swap_n hl i k w h hi hk
theorem belT {a b c : World} (h : Below a.heap.size a b) (k : Below b.heap.size b c) : Below a.heap.size a c := ⟨k.os.trans h.os, k.tape.trans h.tape, k.output.trans h.output, Nat.le_trans h.size k.size, fun i hi => (k.block i (Nat.lt_of_lt_of_le hi h.size)).trans (h.block i hi)⟩
set_option maxHeartbeats 8000000 in
theorem down_c (B gb cap n0 : Nat) (a : Addr) (l : List Ev) (n i0 : Nat) (w : World) (h : Hr B gb cap n0 a w l) (hi : i0 ≤ n) (hn : n ≤ n0) (hs : n0 ≤ 1000000) (ho : Ho l n i0) :
    Calls Tryz.prog 81 #[.iface 104 (.pointer (some a)), .int .i64 (i0 : Int), .int .i64 (n : Int)] w fun e w' => ∃ b, e = .returned (.bool b) ∧ ∃ l', Hid (DnE l l' n i0 b) ∧ Hid (Hr B gb cap n0 a w' l') ∧ Hid (But gb w w') := by
  have H0 : Hid (Hr B gb cap n0 a w l ∧ Ho l n i0) := ⟨h, ho⟩
  clear h ho
  go_enter Tryz.func81, Tryz.ntmps81
  go_wp2
  go_loopw [7] (fun s7 W => ∃ (i : Nat) (l' : List Ev), i ≤ n ∧ s7 = .int .i64 i ∧ Hid (Dn l l' n i0 i) ∧ Hid (Hr B gb cap n0 a W l') ∧ Hid (But gb w W)) (fun s7 W => n - (intOf s7).toNat)
  case atStart => exact ⟨i0, l, hi, rfl, ⟨Wk.refl _ _, H0.out.2, Or.inl ⟨rfl, rfl⟩⟩, H0.out.1, But.refl _ _⟩
  case round =>
    clear H0
    obtain ⟨i, l', hin, rfl, HD, HR, HB⟩ := hrel
    have m1 := mLess a (some ⟨gb, 0, none⟩) n0 cap wr HR.out.c
    by_cases h1 : 2 * i + 1 < n
    · have j1 : (decide ((n : Int) ≤ 2 * (i : Int) + 1)) = false := by rw [decide_eq_false_iff_not]; omega
      have j0 : (decide (2 * (i : Int) + 1 < 0)) = false := by rw [decide_eq_false_iff_not]; omega
      by_cases h2 : 2 * i + 1 + 1 < n
      · have j2 : (decide (2 * (i : Int) + 1 + 1 < (n : Int))) = true := by rw [decide_eq_true_eq]; omega
        have HLs : Hid (Calls Tryz.prog 172 #[.slice (some ⟨gb, 0, none⟩) n0 cap, .int .i64 (2 * (i : Int) + 1 + 1), .int .i64 (2 * (i : Int) + 1)] wr fun e w' => e = .returned (.bool (decide (lt (g l' (2 * i + 1 + 1)) (g l' (2 * i + 1))))) ∧ Below wr.heap.size wr w') := less_z HR.out.n (2 * i + 1 + 1) (2 * i + 1) wr HR.out.r (by omega) (by omega) hs (by omega) (by omega)
        by_cases h3 : lt (g l' (2 * i + 1 + 1)) (g l' (2 * i + 1))
        · have HC : Hid (Lc l' n i (2 * i + 1 + 1)) := Lc.right h2 h3
          rw [decide_eq_true h3] at HLs
          clear h3
          have HLc : Hid (∀ x, Below wr.heap.size wr x → Calls Tryz.prog 172 #[.slice (some ⟨gb, 0, none⟩) n0 cap, .int .i64 (2 * (i : Int) + 1 + 1), .int .i64 (i : Int)] x fun e w' => e = .returned (.bool (decide (lt (g l' (2 * i + 1 + 1)) (g l' i)))) ∧ Below x.heap.size x w') := fun x hx => less_z HR.out.n (2 * i + 1 + 1) i x (HR.out.below hx).r (by omega) (by omega) hs (by omega) rfl
          by_cases hlt : lt (g l' (2 * i + 1 + 1)) (g l' i)
          · have HX : Hid (lt (g l' (2 * i + 1 + 1)) (g l' i)) := hlt
            rw [decide_eq_true hlt] at HLc
            clear hlt
            go_wp2_with (first
              | (have hq := m3; go_at_call 173; refine (swap_z HS.out.n i (2 * i + 1 + 1) _ HS.out.r (by omega) (by omega) rfl (by omega)).mono ?_; rintro e w4 ⟨rfl, hr4, hb4⟩)
              | (have hq := m2; go_at_call 172; refine (HLc.out _ HBw.out).mono ?_; rintro e w3 ⟨rfl, hb3⟩; have hr3 := HR.out.below (belT HBw.out hb3); have m3 := mSwap a (some ⟨gb, 0, none⟩) n0 cap w3 hr3.c; have HS : Hid (Hr B gb cap n0 a w3 l') := hr3; have HB3 : Hid (But gb w w3) := (HB.out.below HBw.out).below hb3; clear hr3 hb3)
              | (go_at_call 172; refine HLs.out.mono ?_; rintro e w2 ⟨rfl, hb2⟩; have hr2 := HR.out.below hb2; have m2 := mLess a (some ⟨gb, 0, none⟩) n0 cap w2 hr2.c; have HBw : Hid (Below wr.heap.size wr w2) := hb2; clear hr2 hb2))
            refine ⟨⟨2 * i + 1 + 1, swp l' i (2 * i + 1 + 1), by omega, by go_num, HD.out.step (by rw [HR.out.n]; exact hn) HC.out HX.out, HS.out.swap hr4 hb4, HB3.out.trans hb4⟩, by simp [intOf]; omega⟩
          · have HX : Hid (¬ lt (g l' (2 * i + 1 + 1)) (g l' i)) := hlt
            rw [decide_eq_false hlt] at HLc
            clear hlt
            go_wp2_with (first
              | (have hq := m2; go_at_call 172; refine (HLc.out _ HBw.out).mono ?_; rintro e w3 ⟨rfl, hb3⟩; have hr3 := HR.out.below (belT HBw.out hb3); have m3 := mSwap a (some ⟨gb, 0, none⟩) n0 cap w3 hr3.c; have HS : Hid (Hr B gb cap n0 a w3 l') := hr3; have HB3 : Hid (But gb w w3) := (HB.out.below HBw.out).below hb3; clear hr3 hb3)
              | (go_at_call 172; refine HLs.out.mono ?_; rintro e w2 ⟨rfl, hb2⟩; have hr2 := HR.out.below hb2; have m2 := mLess a (some ⟨gb, 0, none⟩) n0 cap w2 hr2.c; have HBw : Hid (Below wr.heap.size wr w2) := hb2; clear hr2 hb2))
            go_ret
            exact ⟨_, rfl, l', HD.out.stop (HC.out.stop HX.out), HS.out, HB3.out⟩
        · have HC : Hid (Lc l' n i (2 * i + 1)) := Lc.left h1 (fun _ => h3)
          rw [decide_eq_false h3] at HLs
          clear h3
          have HLc : Hid (∀ x, Below wr.heap.size wr x → Calls Tryz.prog 172 #[.slice (some ⟨gb, 0, none⟩) n0 cap, .int .i64 (2 * (i : Int) + 1), .int .i64 (i : Int)] x fun e w' => e = .returned (.bool (decide (lt (g l' (2 * i + 1)) (g l' i)))) ∧ Below x.heap.size x w') := fun x hx => less_z HR.out.n (2 * i + 1) i x (HR.out.below hx).r (by omega) (by omega) hs (by omega) rfl
          by_cases hlt : lt (g l' (2 * i + 1)) (g l' i)
          · have HX : Hid (lt (g l' (2 * i + 1)) (g l' i)) := hlt
            rw [decide_eq_true hlt] at HLc
            clear hlt
            go_wp2_with (first
              | (have hq := m3; go_at_call 173; refine (swap_z HS.out.n i (2 * i + 1) _ HS.out.r (by omega) (by omega) rfl (by omega)).mono ?_; rintro e w4 ⟨rfl, hr4, hb4⟩)
              | (have hq := m2; go_at_call 172; refine (HLc.out _ HBw.out).mono ?_; rintro e w3 ⟨rfl, hb3⟩; have hr3 := HR.out.below (belT HBw.out hb3); have m3 := mSwap a (some ⟨gb, 0, none⟩) n0 cap w3 hr3.c; have HS : Hid (Hr B gb cap n0 a w3 l') := hr3; have HB3 : Hid (But gb w w3) := (HB.out.below HBw.out).below hb3; clear hr3 hb3)
              | (go_at_call 172; refine HLs.out.mono ?_; rintro e w2 ⟨rfl, hb2⟩; have hr2 := HR.out.below hb2; have m2 := mLess a (some ⟨gb, 0, none⟩) n0 cap w2 hr2.c; have HBw : Hid (Below wr.heap.size wr w2) := hb2; clear hr2 hb2))
            refine ⟨⟨2 * i + 1, swp l' i (2 * i + 1), by omega, by go_num, HD.out.step (by rw [HR.out.n]; exact hn) HC.out HX.out, HS.out.swap hr4 hb4, HB3.out.trans hb4⟩, by simp [intOf]; omega⟩
          · have HX : Hid (¬ lt (g l' (2 * i + 1)) (g l' i)) := hlt
            rw [decide_eq_false hlt] at HLc
            clear hlt
            go_wp2_with (first
              | (have hq := m2; go_at_call 172; refine (HLc.out _ HBw.out).mono ?_; rintro e w3 ⟨rfl, hb3⟩; have hr3 := HR.out.below (belT HBw.out hb3); have m3 := mSwap a (some ⟨gb, 0, none⟩) n0 cap w3 hr3.c; have HS : Hid (Hr B gb cap n0 a w3 l') := hr3; have HB3 : Hid (But gb w w3) := (HB.out.below HBw.out).below hb3; clear hr3 hb3)
              | (go_at_call 172; refine HLs.out.mono ?_; rintro e w2 ⟨rfl, hb2⟩; have hr2 := HR.out.below hb2; have m2 := mLess a (some ⟨gb, 0, none⟩) n0 cap w2 hr2.c; have HBw : Hid (Below wr.heap.size wr w2) := hb2; clear hr2 hb2))
            go_ret
            exact ⟨_, rfl, l', HD.out.stop (HC.out.stop HX.out), HS.out, HB3.out⟩
      · have j2 : (decide (2 * (i : Int) + 1 + 1 < (n : Int))) = false := by rw [decide_eq_false_iff_not]; omega
        have HC : Hid (Lc l' n i (2 * i + 1)) := Lc.left h1 (fun h => absurd h h2)
        have HLc : Hid (∀ x, Below wr.heap.size wr x → Calls Tryz.prog 172 #[.slice (some ⟨gb, 0, none⟩) n0 cap, .int .i64 (2 * (i : Int) + 1), .int .i64 (i : Int)] x fun e w' => e = .returned (.bool (decide (lt (g l' (2 * i + 1)) (g l' i)))) ∧ Below x.heap.size x w') := fun x hx => less_z HR.out.n (2 * i + 1) i x (HR.out.below hx).r (by omega) (by omega) hs (by omega) rfl
        by_cases hlt : lt (g l' (2 * i + 1)) (g l' i)
        · have HX : Hid (lt (g l' (2 * i + 1)) (g l' i)) := hlt
          rw [decide_eq_true hlt] at HLc
          clear hlt
          go_wp2_with (first
            | (have hq := m3; go_at_call 173; refine (swap_z HS.out.n i (2 * i + 1) _ HS.out.r (by omega) (by omega) rfl (by omega)).mono ?_; rintro e w4 ⟨rfl, hr4, hb4⟩)
            | (have hq := m1; go_at_call 172; refine (HLc.out _ (Below.refl _ _)).mono ?_; rintro e w3 ⟨rfl, hb3⟩; have hr3 := HR.out.below (belT (Below.refl _ _) hb3); have m3 := mSwap a (some ⟨gb, 0, none⟩) n0 cap w3 hr3.c; have HS : Hid (Hr B gb cap n0 a w3 l') := hr3; have HB3 : Hid (But gb w w3) := (HB.out.below (Below.refl _ _)).below hb3; clear hr3 hb3))
          refine ⟨⟨2 * i + 1, swp l' i (2 * i + 1), by omega, by go_num, HD.out.step (by rw [HR.out.n]; exact hn) HC.out HX.out, HS.out.swap hr4 hb4, HB3.out.trans hb4⟩, by simp [intOf]; omega⟩
        · have HX : Hid (¬ lt (g l' (2 * i + 1)) (g l' i)) := hlt
          rw [decide_eq_false hlt] at HLc
          clear hlt
          go_wp2_with (first
            | (have hq := m1; go_at_call 172; refine (HLc.out _ (Below.refl _ _)).mono ?_; rintro e w3 ⟨rfl, hb3⟩; have hr3 := HR.out.below (belT (Below.refl _ _) hb3); have m3 := mSwap a (some ⟨gb, 0, none⟩) n0 cap w3 hr3.c; have HS : Hid (Hr B gb cap n0 a w3 l') := hr3; have HB3 : Hid (But gb w w3) := (HB.out.below (Below.refl _ _)).below hb3; clear hr3 hb3))
          go_ret
          exact ⟨_, rfl, l', HD.out.stop (HC.out.stop HX.out), HS.out, HB3.out⟩
    · have j1 : (decide ((n : Int) ≤ 2 * (i : Int) + 1)) = true := by rw [decide_eq_true_eq]; omega
      go_wp2
      go_ret
      exact ⟨_, rfl, l', HD.out.stop (no_ch (by omega)), HR.out, HB.out⟩
end Go.Proofs.YtokepgnnepjiaaaGreat.Q

/- A row of events behind a pointer: Push, Pop; the library's Push, Pop, Remove. -/
namespace Go.Proofs.YtokepgnnepjiaaaGreat.Q
set_option maxRecDepth 100000
open Go.RowKit Qu Go.Maps
set_option linter.unusedVariables false
set_option linter.unusedSimpArgs false

theorem info_parts {p : Program} {t : TypeId} {z : Value} {s b : Nat} (h : (p.info? t).map (fun i => (i.zero, i.size, i.bytes)) = some (some z, s, b)) : ∃ i, p.info? t = some i ∧ i.zero = some z ∧ i.size = s ∧ i.bytes = b := by
  cases e : p.info? t with
  | none => rw [e] at h; cases h
  | some i => rw [e] at h; simp at h; exact ⟨i, rfl, h.1, h.2.1, h.2.2⟩
theorem infoEv : ∃ i, Tryz.prog.info? 39 = some i ∧ i.zero = some (evG ev0) ∧ i.size = 6 ∧ i.bytes = 56 := info_parts (by kernel_rfl)
theorem new6 (w : World) (e : Ev) (t : TypeId) (n : Nat) (hn : w.heap.size = n) (j : Nat) (u : Value) (h : (evC e)[j]? = some u) : (w.alloc (.cells #[.int .i64 e.t, .int .i64 e.nd, .string e.v, .int .i64 e.fr, .int .i64 e.sq, .bool e.an] t)).cell? ((⟨n, 0, none⟩ : Addr).add j) = some u := by
  have e1 : ((⟨n, 0, none⟩ : Addr).add j) = ⟨n, j, none⟩ := by simp [Addr.add]; intro h; exact h.symm
  rw [e1, Lib.cell_of_heap (alAt hn)]
  simpa [evC] using h
theorem one6 (e : Ev) : ∀ u ∈ evC e, u.oneCell' = true := by
  intro u hu
  simp [evC] at hu
  rcases hu with rfl | rfl | rfl | rfl | rfl | rfl <;> rfl
/-- a queue's list: a slice that is its own row -/
def EvS (B : Nat) (W : World) (v : Value) (l : List Ev) : Prop := W.ownsRow B 39 6 v l.length (evs l)
theorem own_slice1 {w : World} {B e z n : Nat} {v : Value} {xs : List Value} (h : w.ownsRow B e z v (n + 1) xs) : ∃ g cap, v = .slice (some ⟨g, 0, none⟩) (n + 1) cap := by
  rcases h.2 with ⟨_, h2⟩ | ⟨g, cap, cur, rfl, _⟩
  · cases h2
  · exact ⟨g, cap, rfl⟩
theorem EvS.slice {B : Nat} {W : World} {v : Value} {l : List Ev} (h : EvS B W v l) : ∃ ao cap, v = .slice ao l.length cap := by
  rcases h.2 with ⟨rfl, e⟩ | ⟨g, cap, cur, rfl, _⟩
  · exact ⟨none, 0, by rw [e]⟩
  · exact ⟨_, cap, rfl⟩
/-- what an append of one event onto a row of its own does, behind a draw -/
theorem app_ev {B n : Nat} {W : World} {v : Value} {l : List Ev} (h : W.ownsRow B 39 6 v n (evs l)) (x : Ev) (hn : n ≤ 1000000) (hB : B ≤ W.heap.size) :
    ∃ g' cap' W', (∀ ty, (Builtin.append_ #[99, 99] ty #[v, .slice (some ⟨W.heap.size, 0, none⟩) 1 1]).run Tryz.prog (W.alloc (.cells #[.int .i64 x.t, .int .i64 x.nd, .string x.v, .int .i64 x.fr, .int .i64 x.sq, .bool x.an] 39)).drew = .ok (.slice (some ⟨g', 0, none⟩) (n + 1) cap') W') ∧ Hid (W'.ownsRow B 39 6 (.slice (some ⟨g', 0, none⟩) (n + 1) cap') (n + 1) (evs (l ++ [x]))) ∧ Hid ((W.alloc (.cells #[.int .i64 x.t, .int .i64 x.nd, .string x.v, .int .i64 x.fr, .int .i64 x.sq, .bool x.an] 39)).drew.grownBy W' v.ownBlock) ∧ Hid (some g' = v.ownBlock ∨ g' = W.heap.size + 1) := by
  obtain ⟨i, h1, h2, h3, h4⟩ := infoEv
  have hn' : ∀ j u, (evC x)[j]? = some u → (W.alloc (.cells #[.int .i64 x.t, .int .i64 x.nd, .string x.v, .int .i64 x.fr, .int .i64 x.sq, .bool x.an] 39)).drew.cell? ((⟨W.heap.size, 0, none⟩ : Addr).add j) = some u := fun j u hj => new6 W x 39 _ rfl j u hj
  have run := fun ty => run_append_own_at (P := Tryz.prog) (W.alloc (.cells #[.int .i64 x.t, .int .i64 x.nd, .string x.v, .int .i64 x.fr, .int .i64 x.sq, .bool x.an] 39)).drew B 99 ty 39 i (evG ev0) 6 56 Tryz.underlying99 h1 h2 h3 h4 rfl (by decide) v n (evs l) ((h.alloc _).drew) ⟨W.heap.size, 0, none⟩ 1 1 (evC x) rfl hn' (one6 x) (by unfold maxLen; omega) (by omega) (by show B ≤ (W.heap.push _).size; simp; omega)
  obtain ⟨v', W', r1, r2, r3, _, r5⟩ := run 3
  obtain ⟨g', cap', rfl⟩ := own_slice1 r2
  refine ⟨g', cap', W', fun ty => ?_, ?_, r3, ?_⟩
  · exact r1
  · show W'.ownsRow _ _ _ _ _ _; rw [evs_app]; simpa [evs] using r2
  · rcases r5 with e | e
    · exact Or.inl e
    · right; injection e with e; exact e.trans (by show (W.heap.push _).size = _; simp)
/-- an append whose run is known, within a region that draws -/
theorem step_app {P : Program} {ops : Array Oper} {o : Oper} {a : Act} {w : World} {K : Act → World → Prop} {Q : Exit → Act → World → Prop} {E : Prop}
    (hg : o.guard = none) (s x : Operand) (t : TypeId) (hop : o.op = Op.call { callee := Callee.builtin Builtin.append, args := #[s, x], argTypes := #[t, t] }) (v ad v' : Value) (w' : World)
    (hs : a.eval s = v) (hx : a.eval x = ad) (hr : (Builtin.append_ #[t, t] o.type #[v, ad]).run P w = .ok v' w') (hK : K (a.put o.dst v') w') :
    if Region.wanted o (yielded ops a.tmps) = true then Oper.wp P o a w K Q else E := by
  have hw : Region.wanted o (yielded ops a.tmps) = true := by simp [Region.wanted, hg]
  rw [if_pos hw]
  unfold Oper.wp execOp
  simp only [hop, resolve, invoke, builtin, Sem.run_bind, Sem.run_pure, Result.andThen_ok, List.map_toArray, List.map_cons, List.map_nil, hs, hx, hr]
  exact hK
/-- a queue in memory: at the block q, its list at v -/
structure Qb (B q : Nat) (lim : Int) (W : World) (v : Value) (l : List Ev) : Prop where
  blk : W.heap[q]? = some (.cells #[.pointer (some ⟨q, 0, none⟩), .int .i64 lim, v] 101 (0, 0))
  row : EvS B W v l
  ge : B ≤ q
theorem own_neT {w : World} {B e z n k t' : Nat} {v : Value} {xs : List Value} {c : Array Value} {m : Nat × Nat} (h : w.ownsRow B e z v n xs) (hk : w.heap[k]? = some (.cells c t' m)) (ht : t' ≠ e) : v.ownBlock ≠ some k := by
  rcases h.2 with ⟨rfl, _⟩ | ⟨g, cap, cur, rfl, _, hh, _⟩
  · intro e; cases e
  · intro e; injection e with e; subst e; rw [hh] at hk; injection hk with hk; injection hk with h1 h2 h3; exact ht h2.symm
theorem Qb.ne {B q : Nat} {lim : Int} {W : World} {v : Value} {l : List Ev} (h : Qb B q lim W v l) : v.ownBlock ≠ some q := own_neT h.row h.blk (by decide)
theorem cells3 {w : World} {b : Nat} {y0 y1 y2 : Value} {t : TypeId} (h : w.heap[b]? = some (.cells #[y0, y1, y2] t (0, 0))) : w.cell? ⟨b, 0, none⟩ = some y0 ∧ w.cell? ⟨b, 1, none⟩ = some y1 ∧ w.cell? ⟨b, 2, none⟩ = some y2 ∧ w.frozen? ⟨b, 2, none⟩ = false :=
  ⟨by rw [Lib.cell_of_heap h]; rfl, by rw [Lib.cell_of_heap h]; rfl, by rw [Lib.cell_of_heap h]; rfl, by simp [World.frozen?, h]⟩
/-- two blocks have turned; more may be there -/
structure But2 (T : Nat) (U : Option Nat) (w w' : World) : Prop where
  os : w'.os = w.os
  tape : w'.tape = w.tape
  output : w'.output = w.output
  size : w.heap.size ≤ w'.heap.size
  block : ∀ k, k < w.heap.size → k ≠ T → U ≠ some k → w'.heap[k]? = w.heap[k]?
theorem But2.of {T : Nat} {U : Option Nat} {w w' : World} (h : But T w w') : But2 T U w w' := ⟨h.os, h.tape, h.output, h.size, fun k a b _ => h.block k a b⟩
theorem But2.of' {T U : Nat} {w w' : World} (h : But U w w') : But2 T (some U) w w' := ⟨h.os, h.tape, h.output, h.size, fun k a _ b => h.block k a (fun e => b (by rw [e]))⟩
theorem But2.below {T : Nat} {U : Option Nat} {w w' w2 : World} (h : But2 T U w w') (k : Below w'.heap.size w' w2) : But2 T U w w2 := ⟨k.os.trans h.os, k.tape.trans h.tape, k.output.trans h.output, Nat.le_trans h.size k.size, fun i hi a b => (k.block i (Nat.lt_of_lt_of_le hi h.size)).trans (h.block i hi a b)⟩
theorem But2.refl (T : Nat) (U : Option Nat) (w : World) : But2 T U w w := ⟨rfl, rfl, rfl, Nat.le_refl _, fun _ _ _ _ => rfl⟩
theorem But2.bel {T : Nat} {U : Option Nat} {w w' : World} (k : Below w.heap.size w w') : But2 T U w w' := (But2.refl T U w).below k
/-- one behind the other, where the row may have moved to a new block -/
theorem But2.trans {T : Nat} {U U' : Option Nat} {a b c : World} (h : But2 T U a b) (k : But2 T U' b c) (hU : ∀ x, U' = some x → U = some x ∨ a.heap.size ≤ x) : But2 T U a c :=
  ⟨k.os.trans h.os, k.tape.trans h.tape, k.output.trans h.output, Nat.le_trans h.size k.size, fun i hi x y => (k.block i (Nat.lt_of_lt_of_le hi h.size) x (fun e => by
    rcases hU i e with e2 | e2
    · exact y e2
    · omega)).trans (h.block i hi x y)⟩
theorem But2.set {T : Nat} {U : Option Nat} {w w' : World} (h : But2 T U w w') (i : Nat) (v : Value) : But2 T U w (w'.setCell ⟨T, i, none⟩ v) :=
  ⟨h.os, h.tape, h.output, by rw [show (w'.setCell ⟨T, i, none⟩ v).heap.size = w'.heap.size by simp [World.setCell]]; exact h.size, fun k hk ne nu => (Below.heap_setCell _ _ _ _ (by show k ≠ T; exact ne)).trans (h.block k hk ne nu)⟩
theorem set2 {W : World} {q : Nat} {x y z z' : Value} {t : TypeId} (h : W.heap[q]? = some (.cells #[x, y, z] t (0, 0))) : (W.setCell ⟨q, 2, none⟩ z').heap[q]? = some (.cells #[x, y, z'] t (0, 0)) := by
  simp only [World.setCell]; rw [Array.getElem?_modify, if_pos rfl, h]; rfl
theorem Qb.of_set {B q : Nat} {lim : Int} {W : World} {z v : Value} {l : List Ev} (hb : W.heap[q]? = some (.cells #[.pointer (some ⟨q, 0, none⟩), .int .i64 lim, z] 101 (0, 0))) (ho : EvS B W v l) (hq : B ≤ q) : Qb B q lim (W.setCell ⟨q, 2, none⟩ v) v l :=
  ⟨set2 hb, own_at ho fun k hk => Below.heap_setCell _ _ _ _ (by show k ≠ q; intro e; subst e; exact own_neT ho hb (by decide) hk), hq⟩
theorem Qb.below {B q : Nat} {lim : Int} {W W' : World} {v : Value} {l : List Ev} (h : Qb B q lim W v l) (hb : Below W.heap.size W W') : Qb B q lim W' v l :=
  ⟨(hb.block q (hLt h.blk)).trans h.blk, own_at h.row fun k hk => hb.block k (World.ownsRow.lt h.row k hk).2, h.ge⟩
set_option maxHeartbeats 4000000 in
theorem push_c (B q : Nat) (lim : Int) (v : Value) (l : List Ev) (x : Ev) (w : World) (h : Qb B q lim w v l) (hn : l.length ≤ 1000000) (hB : B ≤ w.heap.size) :
    Calls Tryz.prog 177 #[.pointer (some ⟨q, 2, none⟩), .iface 39 (.agg #[.int .i64 x.t, .int .i64 x.nd, .string x.v, .int .i64 x.fr, .int .i64 x.sq, .bool x.an])] w fun e w' => e = .returned (.tuple #[]) ∧ ∃ g' cap', Hid (Qb B q lim w' (.slice (some ⟨g', 0, none⟩) (l.length + 1) cap') (l ++ [x])) ∧ Hid (But2 q v.ownBlock w w') ∧ Hid (some g' = v.ownBlock ∨ w.heap.size ≤ g') := by
  obtain ⟨g', cap', W', hrun, HO, HG, HL⟩ := app_ev h.row x hn hB
  obtain ⟨c0, c1, c2, f2⟩ := cells3 h.blk
  have hl := hLt h.blk
  obtain ⟨ao, cap, rfl⟩ := h.row.slice
  have hb : W'.heap[q]? = some (.cells #[.pointer (some ⟨q, 0, none⟩), .int .i64 lim, .slice ao l.length cap] 101 (0, 0)) := (HG.out.block q (by simp; omega) (fun e => h.ne e.symm)).trans ((alOld hl).trans h.blk)
  obtain ⟨d0, d1, d2, e2⟩ := cells3 hb
  have HQ : Hid (Qb B q lim w (.slice ao l.length cap) l) := h
  have HE : Hid (But2 q (Value.slice ao l.length cap).ownBlock w W') := ⟨HG.out.os, HG.out.tape, HG.out.output, Nat.le_trans (by simp) HG.out.size, fun k hk _ nu => (HG.out.block k (by simp; omega) (fun e => nu e.symm)).trans (alOld hk)⟩
  have HB : Hid (W'.heap[q]? = some (.cells #[.pointer (some ⟨q, 0, none⟩), .int .i64 lim, .slice ao l.length cap] 101 (0, 0))) := hb
  clear h hb
  have hta : ∀ W, (Instr.typeAssert (.iface 39 (.agg #[.int .i64 x.t, .int .i64 x.nd, .string x.v, .int .i64 x.fr, .int .i64 x.sq, .bool x.an])) 20 39 false).run Tryz.prog W = .ok (.agg #[.int .i64 x.t, .int .i64 x.nd, .string x.v, .int .i64 x.fr, .int .i64 x.sq, .bool x.an]) W := fun W => by kernel_rfl
  go_enter Tryz.func177, Tryz.ntmps177
  go_region_law (refine step_app rfl _ _ 99 rfl (.slice ao l.length cap) (.slice (some ⟨w.heap.size, 0, none⟩) 1 1) (.slice (some ⟨g', 0, none⟩) (l.length + 1) cap') W' (by simp [Act.eval, Act.put]) (by simp [Act.eval, Act.put]) (hrun _) ?_)
  all_goals (go_end0; exact ⟨rfl, g', cap', Qb.of_set HB.out (by unfold EvS; rw [List.length_append]; exact HO.out) HQ.out.ge, HE.out.set 2 _, by rcases HL.out with e | e; exact Or.inl e; exact Or.inr (by omega)⟩)
theorem own_take {w : World} {B e z n m gb cap : Nat} {xs : List Value} (h : w.ownsRow B e z (.slice (some ⟨gb, 0, none⟩) n cap) n xs) (hm : m ≤ n) : w.ownsRow B e z (.slice (some ⟨gb, 0, none⟩) m cap) m (xs.take (m * z)) := by
  have hz : m * z ≤ n * z := Nat.mul_le_mul_right z hm
  refine ⟨by rw [List.length_take, h.1]; omega, ?_⟩
  rcases h.2 with ⟨h', _⟩ | ⟨g', cap', cur, h', hb, hg, hnc, hcm, hcs, ht⟩
  · cases h'
  · simp only [Value.slice.injEq, Option.some.injEq, Addr.mk.injEq, and_true, true_and] at h'
    obtain ⟨rfl, rfl⟩ := h'
    exact Or.inr ⟨gb, cap, cur, rfl, hb, hg, by omega, hcm, hcs, by rw [← ht, List.take_take, Nat.min_eq_left hz]⟩
theorem evs_take (l : List Ev) (m : Nat) : (evs l).take (m * 6) = evs (l.take m) := by
  induction l generalizing m with
  | nil => simp [evs]
  | cons e l ih =>
    match m with
    | 0 => simp [evs]
    | m + 1 =>
      rw [List.take_succ_cons, evs_cons, evs_cons, ← ih m, show (m + 1) * 6 = (evC e).length + m * 6 by simp [evC]; omega, List.take_length_add_append]
theorem EvR.pop {B : Nat} {W : World} {gb cap : Nat} {l : List Ev} (h : EvR B W gb cap l) {m : Nat} (hm : l.length = m + 1) : EvS B W (.slice (some ⟨gb, 0, none⟩) m cap) (l.take m) := by
  have k := own_take h (m := m) (by omega)
  rw [evs_take] at k
  have e : (l.take m).length = m := by rw [List.length_take]; omega
  unfold EvS
  rw [e]
  exact k
theorem EvR.cap {B : Nat} {W : World} {gb cap : Nat} {l : List Ev} (h : EvR B W gb cap l) : l.length ≤ cap := by
  rcases h.2 with ⟨h', _⟩ | ⟨g', cap', cur, h', hb, hg, hnc, _⟩
  · cases h'
  · injection h' with a b c; rw [c]; exact hnc
set_option maxHeartbeats 4000000 in
theorem pop_c (B q gb cap m : Nat) (lim : Int) (l : List Ev) (w : World) (hm : l.length = m + 1) (h : Qb B q lim w (.slice (some ⟨gb, 0, none⟩) (m + 1) cap) l) (hs : m ≤ 1000000) :
    Calls Tryz.prog 176 #[.pointer (some ⟨q, 2, none⟩)] w fun e w' => e = .returned (.iface 39 (.agg #[.int .i64 (g l m).t, .int .i64 (g l m).nd, .string (g l m).v, .int .i64 (g l m).fr, .int .i64 (g l m).sq, .bool (g l m).an])) ∧ Hid (Qb B q lim w' (.slice (some ⟨gb, 0, none⟩) m cap) (l.take m)) ∧ Hid (But2 q (some gb) w w') := by
  have hr : EvR B w gb cap l := by have := h.row; unfold EvS at this; unfold EvR; rw [hm] at this ⊢; exact this
  obtain ⟨c0, c1, c2, f2⟩ := cells3 h.blk
  have hl := hLt h.blk
  obtain ⟨a0, a1, a2, a3, a4, a5⟩ := hr.cells m (by omega)
  have p0 := hr.frozen (m * 6)
  have p1 := hr.frozen (m * 6 + 1)
  have p2 := hr.frozen (m * 6 + 2)
  have p3 := hr.frozen (m * 6 + 3)
  have p4 := hr.frozen (m * 6 + 4)
  have p5 := hr.frozen (m * 6 + 5)
  have hgl := hr.lt
  have hne : gb ≠ q := fun e => h.ne (by rw [e]; rfl)
  have hne' : q ≠ gb := fun e => hne e.symm
  generalize hx : g l m = x at a0 a1 a2 a3 a4 a5 ⊢
  clear hx
  have i1 : (0 : Int) ≤ (m : Int) := by omega
  have i2 : (m : Int) < (m : Int) + 1 := by omega
  have hcp := hr.cap
  have i3 : (m : Int) ≤ (cap : Int) := by omega
  have i4 : m ≤ cap := by omega
  have i5 : ¬ (cap = 0) := by omega
  have HQ : Hid (Qb B q lim w (.slice (some ⟨gb, 0, none⟩) (m + 1) cap) l) := h
  have HR : Hid (EvR B w gb cap l) := hr
  clear h hr
  go_enter Tryz.func176, Tryz.ntmps176
  go_wp2
  go_ret
  have k1 : EvS B (sw6 w gb m ev0) (.slice (some ⟨gb, 0, none⟩) m cap) (l.take m) := by
    have k := (HR.out.set m (by omega) ev0).pop (m := m) (by rw [List.length_set]; exact hm)
    rw [List.take_set_of_le (Nat.le_refl _)] at k
    exact k
  have k2 := ((But.refl gb w).six m ev0).block q hl hne'
  exact ⟨rfl, (Qb.of_set (k2.trans HQ.out.blk) k1 HQ.out.ge).below (belA (Below.refl _ _) _), ((But2.of' (T := q) ((But.refl gb w).six m ev0)).set 2 _).below (belA (Below.refl _ _) _)⟩
end Go.Proofs.YtokepgnnepjiaaaGreat.Q
