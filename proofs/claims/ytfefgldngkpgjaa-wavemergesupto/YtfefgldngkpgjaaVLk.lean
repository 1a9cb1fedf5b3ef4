/- Layer 18: the program's Begins. -/
import Derived.Test.YtfefgldngkpgjaaVLj
namespace Go.Proofs.Ytfefgldngkpgjaa
set_option maxRecDepth 100000
open Go.RowKit Lg Nl Go.Maps Wf
set_option linter.unusedVariables false
set_option linter.unusedSimpArgs false

def netsB (x y : Wv) : Bool := decide (x.nm = y.nm) && decide (x.wd = y.wd) && decide (x.fi = y.fi)
set_option maxHeartbeats 4000000 in
theorem sameNets_c (x y : Wv) (vn vw vf vl un uw uf ul : Value) (w : World) (hx : WvAt w vn vw vf vl x) (hy : WvAt w un uw uf ul y) (hbx : Bd x) (hby : Bd y) :
    Calls Try.prog 32 #[.agg #[vn, vw, vf, vl], .agg #[un, uw, uf, ul]] w fun e w' => e = .returned (.bool (netsB x y)) ∧ Below w.heap.size w w' := by
  have HA : Hid (WvAt w vn vw vf vl x ∧ WvAt w un uw uf ul y) := ⟨hx, hy⟩
  obtain ⟨W0, hW0⟩ : ∃ W0, W0 = (w.alloc (.cells #[vn, vw, vf, vl] 26)).alloc (.cells #[un, uw, uf, ul] 26) := ⟨_, rfl⟩
  have HB0 : Hid (Below w.heap.size w W0) := by rw [hW0]; exact belA (belA (Below.refl _ _) _) _
  have HX0 : Hid (W0.heap[w.heap.size]? = some (.cells #[vn, vw, vf, vl] 26 (0, 0))) := by rw [hW0]; exact (alOld (by simp)).trans (alAt rfl)
  have HY0 : Hid (W0.heap[w.heap.size + 1]? = some (.cells #[un, uw, uf, ul] 26 (0, 0))) := by rw [hW0]; exact alAt (by simp)
  obtain ⟨r1, h1⟩ : ∃ r, r = decide (x.nm = y.nm) := ⟨_, rfl⟩
  obtain ⟨r2, h2⟩ : ∃ r, r = decide (x.wd = y.wd) := ⟨_, rfl⟩
  obtain ⟨r3, h3⟩ : ∃ r, r = decide (x.fi = y.fi) := ⟨_, rfl⟩
  have HR : Hid (netsB x y = (r1 && r2 && r3)) := by show netsB x y = _; unfold netsB; rw [h1, h2, h3]
  have HE1 : Hid (∀ W, Below W0.heap.size W0 W → Calls Try.prog 45 #[vn, un] W fun e w' => e = .returned (.bool r1) ∧ Below W.heap.size W w') := fun W hW => by
    rw [h1]; exact equalS_c vn un x.nm y.nm W ((HA.out.1.nm.below HB0.out).below hW) ((HA.out.2.nm.below HB0.out).below hW) hbx.nm hby.nm
  have HE2 : Hid (∀ W, Below W0.heap.size W0 W → Calls Try.prog 46 #[vw, uw] W fun e w' => e = .returned (.bool r2) ∧ Below W.heap.size W w') := fun W hW => by
    rw [h2]; exact equalI_c vw uw x.wd y.wd W ((HA.out.1.wd.below HB0.out).below hW) ((HA.out.2.wd.below HB0.out).below hW) hbx.wd hby.wd
  have HE3 : Hid (∀ W, Below W0.heap.size W0 W → Calls Try.prog 45 #[vf, uf] W fun e w' => e = .returned (.bool r3) ∧ Below W.heap.size W w') := fun W hW => by
    rw [h3]; exact equalS_c vf uf x.fi y.fi W ((HA.out.1.fi.below HB0.out).below hW) ((HA.out.2.fi.below HB0.out).below hW) hbx.fi hby.fi
  clear hx hy hbx hby h1 h2 h3
  go_enter Try.func32, Try.ntmps32
  go_upto_region 1 with fail
  rw [← hW0]
  clear hW0
  obtain ⟨b0, b1, b2, b3⟩ := cells4 HX0.out
  obtain ⟨d0, d1, d2, d3⟩ := cells4 HY0.out
  have lb := hLt HX0.out
  have ld := hLt HY0.out
  generalize w.heap.size + 1 = F at HY0 d0 d1 d2 d3 ld ⊢
  generalize w.heap.size = E at HX0 b0 b1 b2 b3 lb ⊢
  cases r1
  · have HY : Hid (false = netsB x y) := HR.out.symm
    clear HR HE2 HE3
    go_wp2_with (first
      | (go_at_call 45; refine (HE1.out _ (Below.refl _ _)).mono ?_; rintro e w1 ⟨rfl, hb1⟩))
    go_ret
    exact ⟨ret_bool HY.out, bel HB0.out hb1⟩
  · cases r2
    · have HY : Hid (false = netsB x y) := HR.out.symm
      clear HR HE3
      go_wp2_with (first
        | (go_at_call 46; refine (HE2.out _ hb1).mono ?_; rintro e w2 ⟨rfl, hb2⟩)
        | (go_at_call 45; refine (HE1.out _ (Below.refl _ _)).mono ?_; rintro e w1 ⟨rfl, hb1⟩; clear b0 b1 b2 b3 d0 d1 d2 d3; obtain ⟨b0, b1, b2, b3⟩ := cells4 ((hb1.block E lb).trans HX0.out); obtain ⟨d0, d1, d2, d3⟩ := cells4 ((hb1.block F ld).trans HY0.out); have lb1 := Nat.lt_of_lt_of_le lb hb1.size; have ld1 := Nat.lt_of_lt_of_le ld hb1.size))
      go_ret
      exact ⟨ret_bool HY.out, bel HB0.out (bel hb1 hb2)⟩
    · have HY : Hid (r3 = netsB x y) := HR.out.symm
      clear HR
      go_wp2_with (first
        | (go_at_call 45; refine (HE3.out _ (bel hb1 hb2)).mono ?_; rintro e w3 ⟨rfl, hb3⟩)
        | (go_at_call 46; refine (HE2.out _ hb1).mono ?_; rintro e w2 ⟨rfl, hb2⟩; clear b0 b1 b2 b3 d0 d1 d2 d3; obtain ⟨b0, b1, b2, b3⟩ := cells4 ((hb2.block E lb1).trans ((hb1.block E lb).trans HX0.out)); obtain ⟨d0, d1, d2, d3⟩ := cells4 ((hb2.block F ld1).trans ((hb1.block F ld).trans HY0.out)); have lb2 := Nat.lt_of_lt_of_le lb1 hb2.size; have ld2 := Nat.lt_of_lt_of_le ld1 hb2.size)
        | (go_at_call 45; refine (HE1.out _ (Below.refl _ _)).mono ?_; rintro e w1 ⟨rfl, hb1⟩; clear b0 b1 b2 b3 d0 d1 d2 d3; obtain ⟨b0, b1, b2, b3⟩ := cells4 ((hb1.block E lb).trans HX0.out); obtain ⟨d0, d1, d2, d3⟩ := cells4 ((hb1.block F ld).trans HY0.out); have lb1 := Nat.lt_of_lt_of_le lb hb1.size; have ld1 := Nat.lt_of_lt_of_le ld hb1.size))
      go_ret
      exact ⟨ret_bool HY.out, bel HB0.out (bel hb1 (bel hb2 hb3))⟩
theorem begB_nets (x y : Wv) (h : x.li.length ≤ y.li.length) : begB x y = (netsB x y && decide (x.li.map tri = (y.li.take x.li.length).map tri)) := by
  unfold begB netsB
  by_cases h1 : x.nm = y.nm <;> by_cases h2 : x.wd = y.wd <;> by_cases h3 : x.fi = y.fi <;> simp [h1, h2, h3, h]
theorem begB_long (x y : Wv) (h : ¬ x.li.length ≤ y.li.length) : begB x y = false := decide_eq_false fun q => h q.2.2.2.1
/-- the piece of y's list that is as long as x's -/
structure Pc (y : Wv) (bo : Option Addr) (c n : Nat) : Prop where
  hn : n ≤ y.li.length
  hc : n ≤ c
  at_ : ∀ W, ChAt W (.slice bo y.li.length c) y.li → ChAt W (.slice bo n n) (y.li.take n)
set_option maxHeartbeats 8000000 in
set_option maxRecDepth 100000 in
theorem begins_cp : BeginsC := by
  intro x y vn vw vf vl un uw uf ul w hx hy hzx hzy hbx hby
  have HA : Hid (WvAt w vn vw vf vl x ∧ WvAt w un uw uf ul y) := ⟨hx, hy⟩
  have HZ : Hid ((Sz x ∧ Bd x) ∧ (Sz y ∧ Bd y)) := ⟨⟨hzx, hbx⟩, ⟨hzy, hby⟩⟩
  obtain ⟨al, cl, rfl, _, _⟩ := hx.li
  obtain ⟨bl, dl, rfl, _, _⟩ := hy.li
  clear hx hy hzx hzy hbx hby
  obtain ⟨W0, hW0⟩ : ∃ W0, W0 = (w.alloc (.cells #[vn, vw, vf, .slice al x.li.length cl] 26)).alloc (.cells #[un, uw, uf, .slice bl y.li.length dl] 26) := ⟨_, rfl⟩
  have HB0 : Hid (Below w.heap.size w W0) := by rw [hW0]; exact belA (belA (Below.refl _ _) _) _
  have HX0 : Hid (W0.heap[w.heap.size]? = some (.cells #[vn, vw, vf, .slice al x.li.length cl] 26 (0, 0))) := by rw [hW0]; exact (alOld (by simp)).trans (alAt rfl)
  have HY0 : Hid (W0.heap[w.heap.size + 1]? = some (.cells #[un, uw, uf, .slice bl y.li.length dl] 26 (0, 0))) := by rw [hW0]; exact alAt (by simp)
  have HA0 : Hid (WvAt W0 vn vw vf (.slice al x.li.length cl) x ∧ WvAt W0 un uw uf (.slice bl y.li.length dl) y) := ⟨HA.out.1.below HB0.out, HA.out.2.below HB0.out⟩
  obtain ⟨m1, h1⟩ : ∃ r, r = mayW x := ⟨_, rfl⟩
  obtain ⟨m2, h2⟩ : ∃ r, r = mayW y := ⟨_, rfl⟩
  obtain ⟨bg, h3⟩ : ∃ r, r = begB x y := ⟨_, rfl⟩
  have HBg : Hid (bg = begB x y) := h3
  have HC1 : Hid (∀ W, Below W0.heap.size W0 W → Calls Try.prog 9 #[.agg #[vn, vw, vf, .slice al x.li.length cl]] W fun e w' => e = .returned (.int .i64 (erOf m1)) ∧ Below W.heap.size W w') := fun W hW => by
    rw [h1]; exact check_c x vn vw vf _ W (HA0.out.1.below hW) HZ.out.1.1 HZ.out.1.2
  have HC2 : Hid (∀ W, Below W0.heap.size W0 W → Calls Try.prog 9 #[.agg #[un, uw, uf, .slice bl y.li.length dl]] W fun e w' => e = .returned (.int .i64 (erOf m2)) ∧ Below W.heap.size W w') := fun W hW => by
    rw [h2]; exact check_c y un uw uf _ W (HA0.out.2.below hW) HZ.out.2.1 HZ.out.2.2
  rw [← h1, ← h2, ← h3]
  clear h1 h2 h3 HA
  go_enter Try.func17, Try.ntmps17
  go_upto_region 1 with fail
  rw [← hW0]
  clear hW0
  obtain ⟨b0, b1, b2, b3⟩ := cells4 HX0.out
  obtain ⟨d0, d1, d2, d3⟩ := cells4 HY0.out
  have lb := hLt HX0.out
  have ld := hLt HY0.out
  generalize w.heap.size + 1 = F at HY0 d0 d1 d2 d3 ld ⊢
  generalize w.heap.size = E at HX0 b0 b1 b2 b3 lb ⊢
  by_cases hle : x.li.length ≤ y.li.length
  · have hle' : decide ((y.li.length : Int) < (x.li.length : Int)) = false := decide_eq_false (by omega)
    have HLe : Hid (x.li.length ≤ y.li.length) := hle
    clear hle
    cases m1
    · clear HC2
      go_wp2_with (first
        | (go_at_call 9; refine (HC1.out _ (Below.refl _ _)).mono ?_; rintro e w1 ⟨rfl, hb1⟩; rw [erOf_f]))
      go_ret
      exact ⟨rfl, bel HB0.out hb1⟩
    · cases m2
      · go_wp2_with (first
          | (go_at_call 9; refine (HC2.out _ hb1).mono ?_; rintro e w2 ⟨rfl, hb2⟩; rw [erOf_f])
          | (go_at_call 9; refine (HC1.out _ (Below.refl _ _)).mono ?_; rintro e w1 ⟨rfl, hb1⟩; rw [erOf_t]; clear b0 b1 b2 b3 d0 d1 d2 d3; obtain ⟨b0, b1, b2, b3⟩ := cells4 ((hb1.block E lb).trans HX0.out); obtain ⟨d0, d1, d2, d3⟩ := cells4 ((hb1.block F ld).trans HY0.out); have lb1 := Nat.lt_of_lt_of_le lb hb1.size; have ld1 := Nat.lt_of_lt_of_le ld hb1.size))
        go_ret
        exact ⟨rfl, bel HB0.out (bel hb1 hb2)⟩
      · go_upto_region 4 with (first
          | (go_at_call 9; refine (HC2.out _ hb1).mono ?_; rintro e w2 ⟨rfl, hb2⟩; rw [erOf_t])
          | (go_at_call 9; refine (HC1.out _ (Below.refl _ _)).mono ?_; rintro e w1 ⟨rfl, hb1⟩; rw [erOf_t]; clear b0 b1 b2 b3 d0 d1 d2 d3; obtain ⟨b0, b1, b2, b3⟩ := cells4 ((hb1.block E lb).trans HX0.out); obtain ⟨d0, d1, d2, d3⟩ := cells4 ((hb1.block F ld).trans HY0.out); have lb1 := Nat.lt_of_lt_of_le lb hb1.size; have ld1 := Nat.lt_of_lt_of_le ld hb1.size))
        have HB2 : Hid (Below W0.heap.size W0 w2) := bel hb1 hb2
        clear b0 b1 b2 b3 d0 d1 d2 d3 lb1 ld1 hb1 hb2 HC1 HC2
        obtain ⟨b0, b1, b2, b3⟩ := cells4 ((HB2.out.block E lb).trans HX0.out)
        obtain ⟨d0, d1, d2, d3⟩ := cells4 ((HB2.out.block F ld).trans HY0.out)
        have lb2 := Nat.lt_of_lt_of_le lb HB2.out.size
        have ld2 := Nat.lt_of_lt_of_le ld HB2.out.size
        have HBn : Hid (bg = (netsB x y && decide (x.li.map tri = (y.li.take x.li.length).map tri))) := by show bg = _; rw [HBg.out, begB_nets x y HLe.out]
        obtain ⟨nb, hnb⟩ : ∃ r, r = netsB x y := ⟨_, rfl⟩
        have HSn : Hid (∀ W, Below W0.heap.size W0 W → Calls Try.prog 32 #[.agg #[vn, vw, vf, .slice al x.li.length cl], .agg #[un, uw, uf, .slice bl y.li.length dl]] W fun e w' => e = .returned (.bool nb) ∧ Below W.heap.size W w') := fun W hW => by
          rw [hnb]; exact sameNets_c x y _ _ _ _ _ _ _ _ W (HA0.out.1.below hW) (HA0.out.2.below hW) HZ.out.1.2 HZ.out.2.2
        rw [← hnb] at HBn
        clear hnb HBg
        cases nb
        · have HY : Hid (bg = false) := HBn.out
          clear HBn
          refine wp_region_any (by kernel_rfl) ?_
          try (change wpAny _ _ _ _ _ _ _ (World.drew _))
          refine wpAny_ready (rs := [0, 1]) (by kernel_rfl) (by simp) ?_
          refine AllReady.cons rfl (fun K hK => ?_) ?_
          · go_simp
            refine hK _ _ ?_
            clear hK K
            try simp only [Act.put, List.setIfInBounds_toArray, List.set_cons_zero, List.set_cons_succ]
            refine wpAny_ready (rs := [1]) (by kernel_rfl) (by simp) ?_
            refine AllReady.cons rfl (fun K hK => ?_) ?_
            · go_simp
              refine hK _ _ ?_
              clear hK K
              try simp only [Act.put, List.setIfInBounds_toArray, List.set_cons_zero, List.set_cons_succ]
              refine wpAny_ready (rs := [2]) (by kernel_rfl) (by simp) ?_
              refine AllReady.cons rfl (fun K hK => ?_) ?_
              · go_simp
                refine (HSn.out _ (bdn HB2.out 1)).mono ?_
                rintro e w3 ⟨rfl, hb3⟩
                refine hK _ _ ?_
                clear hK K
                try simp only [Act.put, List.setIfInBounds_toArray, List.set_cons_zero, List.set_cons_succ]
                refine wpAny_take (i := 3) (oi := ⟨some 27, _, _, _, _, _⟩) (v := ?_) rfl (by kernel_rfl) (by kernel_rfl) (by kernel_rfl) (fun _ _ _ h => h) (Or.inl ⟨by kernel_rfl, ?_⟩) ?_
                rotate_left
                · intro w'; go_simp <;> with_reducible rfl
                try simp only [Act.put, List.setIfInBounds_toArray, List.set_cons_zero, List.set_cons_succ]
                refine wpAny_take (i := 4) (oi := ⟨some 28, _, _, _, _, _⟩) (v := undef) rfl (by kernel_rfl) (by kernel_rfl) (by kernel_rfl) (fun _ _ _ h => h) (Or.inr ⟨by kernel_rfl, rfl⟩) ?_
                try simp only [Act.put, List.setIfInBounds_toArray, List.set_cons_zero, List.set_cons_succ]
                refine wpAny_take (i := 5) (oi := ⟨some 29, _, _, _, _, _⟩) (v := undef) rfl (by kernel_rfl) (by kernel_rfl) (by kernel_rfl) (fun _ _ _ h => h) (Or.inr ⟨by kernel_rfl, rfl⟩) ?_
                try simp only [Act.put, List.setIfInBounds_toArray, List.set_cons_zero, List.set_cons_succ]
                refine wpAny_take (i := 6) (oi := ⟨some 30, _, _, _, _, _⟩) (v := undef) rfl (by kernel_rfl) (by kernel_rfl) (by kernel_rfl) (fun _ _ _ h => h) (Or.inr ⟨by kernel_rfl, rfl⟩) ?_
                try simp only [Act.put, List.setIfInBounds_toArray, List.set_cons_zero, List.set_cons_succ]
                refine wpAny_take (i := 7) (oi := ⟨some 31, _, _, _, _, _⟩) (v := undef) rfl (by kernel_rfl) (by kernel_rfl) (by kernel_rfl) (fun _ _ _ h => h) (Or.inr ⟨by kernel_rfl, rfl⟩) ?_
                try simp only [Act.put, List.setIfInBounds_toArray, List.set_cons_zero, List.set_cons_succ]
                refine wpAny_take (i := 8) (oi := ⟨some 32, _, _, _, _, _⟩) (v := undef) rfl (by kernel_rfl) (by kernel_rfl) (by kernel_rfl) (fun _ _ _ h => h) (Or.inr ⟨by kernel_rfl, rfl⟩) ?_
                try simp only [Act.put, List.setIfInBounds_toArray, List.set_cons_zero, List.set_cons_succ]
                refine wpAny_take (i := 9) (oi := ⟨some 33, _, _, _, _, _⟩) (v := undef) rfl (by kernel_rfl) (by kernel_rfl) (by kernel_rfl) (fun _ _ _ h => h) (Or.inr ⟨by kernel_rfl, rfl⟩) ?_
                try simp only [Act.put, List.setIfInBounds_toArray, List.set_cons_zero, List.set_cons_succ]
                refine wpAny_take (i := 10) (oi := ⟨some 34, _, _, _, _, _⟩) (v := undef) rfl (by kernel_rfl) (by kernel_rfl) (by kernel_rfl) (fun _ _ _ h => h) (Or.inr ⟨by kernel_rfl, rfl⟩) ?_
                try simp only [Act.put, List.setIfInBounds_toArray, List.set_cons_zero, List.set_cons_succ]
                refine wpAny_take (i := 11) (oi := ⟨some 35, _, _, _, _, _⟩) (v := undef) rfl (by kernel_rfl) (by kernel_rfl) (by kernel_rfl) (fun _ _ _ h => h) (Or.inr ⟨by kernel_rfl, rfl⟩) ?_
                try simp only [Act.put, List.setIfInBounds_toArray, List.set_cons_zero, List.set_cons_succ]
                refine wpAny_take (i := 12) (oi := ⟨some 36, _, _, _, _, _⟩) (v := ?_) rfl (by kernel_rfl) (by kernel_rfl) (by kernel_rfl) (fun _ _ _ h => h) (Or.inl ⟨by kernel_rfl, ?_⟩) ?_
                rotate_left
                · intro w'; go_simp <;> with_reducible rfl
                try simp only [Act.put, List.setIfInBounds_toArray, List.set_cons_zero, List.set_cons_succ]
                refine wpAny_take (i := 13) (oi := ⟨some 4, _, _, _, _, _⟩) (v := ?_) rfl (by kernel_rfl) (by kernel_rfl) (by kernel_rfl) (fun _ _ _ h => h) (Or.inl ⟨by kernel_rfl, ?_⟩) ?_
                rotate_left
                · intro w'; go_simp <;> with_reducible rfl
                try simp only [Act.put, List.setIfInBounds_toArray, List.set_cons_zero, List.set_cons_succ]
                refine wpAny_done (by kernel_rfl) ?_ _
                go_wp2_with fail
                go_ret
                exact ⟨by rw [HY.out]; rfl, bel HB0.out (bel (bdn HB2.out 1) hb3)⟩
              exact AllReady.nil
            exact AllReady.nil
          refine AllReady.cons rfl (fun K hK => ?_) ?_
          · go_simp
            refine hK _ _ ?_
            clear hK K
            try simp only [Act.put, List.setIfInBounds_toArray, List.set_cons_zero, List.set_cons_succ]
            refine wpAny_ready (rs := [0]) (by kernel_rfl) (by simp) ?_
            refine AllReady.cons rfl (fun K hK => ?_) ?_
            · go_simp
              refine hK _ _ ?_
              clear hK K
              try simp only [Act.put, List.setIfInBounds_toArray, List.set_cons_zero, List.set_cons_succ]
              refine wpAny_ready (rs := [2]) (by kernel_rfl) (by simp) ?_
              refine AllReady.cons rfl (fun K hK => ?_) ?_
              · go_simp
                refine (HSn.out _ (bdn HB2.out 1)).mono ?_
                rintro e w3 ⟨rfl, hb3⟩
                refine hK _ _ ?_
                clear hK K
                try simp only [Act.put, List.setIfInBounds_toArray, List.set_cons_zero, List.set_cons_succ]
                refine wpAny_take (i := 3) (oi := ⟨some 27, _, _, _, _, _⟩) (v := ?_) rfl (by kernel_rfl) (by kernel_rfl) (by kernel_rfl) (fun _ _ _ h => h) (Or.inl ⟨by kernel_rfl, ?_⟩) ?_
                rotate_left
                · intro w'; go_simp <;> with_reducible rfl
                try simp only [Act.put, List.setIfInBounds_toArray, List.set_cons_zero, List.set_cons_succ]
                refine wpAny_take (i := 4) (oi := ⟨some 28, _, _, _, _, _⟩) (v := undef) rfl (by kernel_rfl) (by kernel_rfl) (by kernel_rfl) (fun _ _ _ h => h) (Or.inr ⟨by kernel_rfl, rfl⟩) ?_
                try simp only [Act.put, List.setIfInBounds_toArray, List.set_cons_zero, List.set_cons_succ]
                refine wpAny_take (i := 5) (oi := ⟨some 29, _, _, _, _, _⟩) (v := undef) rfl (by kernel_rfl) (by kernel_rfl) (by kernel_rfl) (fun _ _ _ h => h) (Or.inr ⟨by kernel_rfl, rfl⟩) ?_
                try simp only [Act.put, List.setIfInBounds_toArray, List.set_cons_zero, List.set_cons_succ]
                refine wpAny_take (i := 6) (oi := ⟨some 30, _, _, _, _, _⟩) (v := undef) rfl (by kernel_rfl) (by kernel_rfl) (by kernel_rfl) (fun _ _ _ h => h) (Or.inr ⟨by kernel_rfl, rfl⟩) ?_
                try simp only [Act.put, List.setIfInBounds_toArray, List.set_cons_zero, List.set_cons_succ]
                refine wpAny_take (i := 7) (oi := ⟨some 31, _, _, _, _, _⟩) (v := undef) rfl (by kernel_rfl) (by kernel_rfl) (by kernel_rfl) (fun _ _ _ h => h) (Or.inr ⟨by kernel_rfl, rfl⟩) ?_
                try simp only [Act.put, List.setIfInBounds_toArray, List.set_cons_zero, List.set_cons_succ]
                refine wpAny_take (i := 8) (oi := ⟨some 32, _, _, _, _, _⟩) (v := undef) rfl (by kernel_rfl) (by kernel_rfl) (by kernel_rfl) (fun _ _ _ h => h) (Or.inr ⟨by kernel_rfl, rfl⟩) ?_
                try simp only [Act.put, List.setIfInBounds_toArray, List.set_cons_zero, List.set_cons_succ]
                refine wpAny_take (i := 9) (oi := ⟨some 33, _, _, _, _, _⟩) (v := undef) rfl (by kernel_rfl) (by kernel_rfl) (by kernel_rfl) (fun _ _ _ h => h) (Or.inr ⟨by kernel_rfl, rfl⟩) ?_
                try simp only [Act.put, List.setIfInBounds_toArray, List.set_cons_zero, List.set_cons_succ]
                refine wpAny_take (i := 10) (oi := ⟨some 34, _, _, _, _, _⟩) (v := undef) rfl (by kernel_rfl) (by kernel_rfl) (by kernel_rfl) (fun _ _ _ h => h) (Or.inr ⟨by kernel_rfl, rfl⟩) ?_
                try simp only [Act.put, List.setIfInBounds_toArray, List.set_cons_zero, List.set_cons_succ]
                refine wpAny_take (i := 11) (oi := ⟨some 35, _, _, _, _, _⟩) (v := undef) rfl (by kernel_rfl) (by kernel_rfl) (by kernel_rfl) (fun _ _ _ h => h) (Or.inr ⟨by kernel_rfl, rfl⟩) ?_
                try simp only [Act.put, List.setIfInBounds_toArray, List.set_cons_zero, List.set_cons_succ]
                refine wpAny_take (i := 12) (oi := ⟨some 36, _, _, _, _, _⟩) (v := ?_) rfl (by kernel_rfl) (by kernel_rfl) (by kernel_rfl) (fun _ _ _ h => h) (Or.inl ⟨by kernel_rfl, ?_⟩) ?_
                rotate_left
                · intro w'; go_simp <;> with_reducible rfl
                try simp only [Act.put, List.setIfInBounds_toArray, List.set_cons_zero, List.set_cons_succ]
                refine wpAny_take (i := 13) (oi := ⟨some 4, _, _, _, _, _⟩) (v := ?_) rfl (by kernel_rfl) (by kernel_rfl) (by kernel_rfl) (fun _ _ _ h => h) (Or.inl ⟨by kernel_rfl, ?_⟩) ?_
                rotate_left
                · intro w'; go_simp <;> with_reducible rfl
                try simp only [Act.put, List.setIfInBounds_toArray, List.set_cons_zero, List.set_cons_succ]
                refine wpAny_done (by kernel_rfl) ?_ _
                go_wp2_with fail
                go_ret
                exact ⟨by rw [HY.out]; rfl, bel HB0.out (bel (bdn HB2.out 1) hb3)⟩
              exact AllReady.nil
            exact AllReady.nil
          exact AllReady.nil
        · -- same nets
          obtain ⟨eb, heb⟩ : ∃ r, r = decide (x.li.map tri = (y.li.take x.li.length).map tri) := ⟨_, rfl⟩
          have HY : Hid (bg = eb) := by show bg = eb; rw [HBn.out, heb]; rfl
          have hcap : y.li.length ≤ dl ∧ (bl = none → dl = 0) := by
            obtain ⟨ao', c, e, hc, _⟩ := HA0.out.2.li
            injection e with e1 e2 e3
          have HEb : Hid (∀ W, Below W0.heap.size W0 W → ∀ u, ChAt W u (y.li.take x.li.length) → Calls Try.prog 33 #[.slice al x.li.length cl, u] W fun e w' => e = .returned (.bool eb) ∧ Below W.heap.size W w') := fun W hW u hu => by
            rw [heb]; exact equalC_c _ u x.li (y.li.take x.li.length) W (HA0.out.1.below hW).li hu HZ.out.1.2.li (Nat.le_trans (List.length_take_le' _ _) HZ.out.2.2.li)
          clear HBn heb
          have HNn : Hid (x.li.length ≤ y.li.length) := HLe.out
          clear hle' 
          generalize x.li.length = n at HA0 HX0 HLe b3 HSn HEb HNn ⊢
          cases bl with
          | none =>
            have hy0 : y.li = [] := ChAt.none HA0.out.2.li
            have HPc : Hid (∀ W, ChAt W (.slice none y.li.length dl) y.li → ChAt W (.slice none 0 0) (y.li.take n)) := fun W _ => ⟨none, 0, by rw [hy0]; simp, ⟨by rw [hy0]; simp, fun _ => rfl⟩, Or.inl (by rw [hy0]; simp)⟩
            have e1 : dl = 0 := hcap.2 rfl
            have e2 : y.li.length = 0 := by rw [hy0]; rfl
            have e3 : n = 0 := by have := HNn.out; omega
            clear hy0 hcap
            generalize y.li.length = k at HA0 HY0 d3 HSn HNn HPc HLe e2 ⊢
            subst e1 e2 e3
            go_region_held (fun w' => w'.cell? ⟨E, 0, none⟩ = some vn ∧ w'.cell? ⟨E, 1, none⟩ = some vw ∧ w'.cell? ⟨E, 2, none⟩ = some vf ∧ w'.cell? ⟨E, 3, none⟩ = some (.slice al 0 cl) ∧ w'.cell? ⟨F, 0, none⟩ = some un ∧ w'.cell? ⟨F, 1, none⟩ = some uw ∧ w'.cell? ⟨F, 2, none⟩ = some uf ∧ w'.cell? ⟨F, 3, none⟩ = some (.slice none 0 0)) (go_keep) (first
              | (go_at_call 33; refine (HEb.out _ (bel (bdn HB2.out 1) HB3.out) _ (HPc.out _ (HA0.out.2.below (bel (bdn HB2.out 1) HB3.out)).li)).mono ?_; rintro e w4 ⟨rfl, hb4⟩; have HB4 : Hid (Below w3.heap.size w3 w4) := hb4; clear hb4; obtain ⟨b0'', b1'', b2'', b3''⟩ := cells4 ((HB4.out.block E (Nat.lt_of_lt_of_le lb2 HB3.out.size)).trans ((HB3.out.block E lb2).trans ((HB2.out.block E lb).trans HX0.out))); obtain ⟨d0'', d1'', d2'', d3''⟩ := cells4 ((HB4.out.block F (Nat.lt_of_lt_of_le ld2 HB3.out.size)).trans ((HB3.out.block F ld2).trans ((HB2.out.block F ld).trans HY0.out))))
              | (go_at_call 32; refine (HSn.out _ (bdn HB2.out 1)).mono ?_; rintro e w3 ⟨rfl, hb3⟩; have HB3 : Hid (Below w2.drew.heap.size w2.drew w3) := hb3; clear hb3; obtain ⟨b0', b1', b2', b3'⟩ := cells4 ((HB3.out.block E lb2).trans ((HB2.out.block E lb).trans HX0.out)); obtain ⟨d0', d1', d2', d3'⟩ := cells4 ((HB3.out.block F ld2).trans ((HB2.out.block F ld).trans HY0.out))))
            all_goals (
              go_wp2_with fail
              go_ret
              exact ⟨by rw [HY.out]; rfl, bel HB0.out (bel (bdn HB2.out 1) (bel HB3.out HB4.out))⟩)
          | some ad =>
            by_cases hy0 : y.li = []
            · have HPc : Hid (∀ W, ChAt W (.slice (some ad) y.li.length dl) y.li → ChAt W (.slice (some ad) 0 0) (y.li.take n)) := fun W _ => ⟨some ad, 0, by rw [hy0]; simp, ⟨by rw [hy0]; simp, fun e => by cases e⟩, Or.inl (by rw [hy0]; simp)⟩
              have e2 : y.li.length = 0 := by rw [hy0]; rfl
              have e3 : n = 0 := by have := HNn.out; omega
              clear hy0 hcap
              generalize y.li.length = k at HA0 HY0 d3 HSn HNn HPc HLe e2 ⊢
              subst e2 e3
              go_region_held (fun w' => w'.cell? ⟨E, 0, none⟩ = some vn ∧ w'.cell? ⟨E, 1, none⟩ = some vw ∧ w'.cell? ⟨E, 2, none⟩ = some vf ∧ w'.cell? ⟨E, 3, none⟩ = some (.slice al 0 cl) ∧ w'.cell? ⟨F, 0, none⟩ = some un ∧ w'.cell? ⟨F, 1, none⟩ = some uw ∧ w'.cell? ⟨F, 2, none⟩ = some uf ∧ w'.cell? ⟨F, 3, none⟩ = some (.slice (some ad) 0 dl)) (go_keep) (first
                | (go_at_call 33; refine (HEb.out _ (bel (bdn HB2.out 1) HB3.out) _ (HPc.out _ (HA0.out.2.below (bel (bdn HB2.out 1) HB3.out)).li)).mono ?_; rintro e w4 ⟨rfl, hb4⟩; have HB4 : Hid (Below w3.heap.size w3 w4) := hb4; clear hb4; obtain ⟨b0'', b1'', b2'', b3''⟩ := cells4 ((HB4.out.block E (Nat.lt_of_lt_of_le lb2 HB3.out.size)).trans ((HB3.out.block E lb2).trans ((HB2.out.block E lb).trans HX0.out))); obtain ⟨d0'', d1'', d2'', d3''⟩ := cells4 ((HB4.out.block F (Nat.lt_of_lt_of_le ld2 HB3.out.size)).trans ((HB3.out.block F ld2).trans ((HB2.out.block F ld).trans HY0.out))))
                | (go_at_call 32; refine (HSn.out _ (bdn HB2.out 1)).mono ?_; rintro e w3 ⟨rfl, hb3⟩; have HB3 : Hid (Below w2.drew.heap.size w2.drew w3) := hb3; clear hb3; obtain ⟨b0', b1', b2', b3'⟩ := cells4 ((HB3.out.block E lb2).trans ((HB2.out.block E lb).trans HX0.out)); obtain ⟨d0', d1', d2', d3'⟩ := cells4 ((HB3.out.block F ld2).trans ((HB2.out.block F ld).trans HY0.out))))
              all_goals (
                go_wp2_with fail
                go_ret
                exact ⟨by rw [HY.out]; rfl, bel HB0.out (bel (bdn HB2.out 1) (bel HB3.out HB4.out))⟩)
            · obtain ⟨gl, ol, e4, _, _⟩ := HA0.out.2.li.at_ 0 (List.length_pos_iff.2 hy0)
              injection e4 with e4
              subst e4
              have HPc : Hid (∀ W, ChAt W (.slice (some ⟨gl, ol, none⟩) y.li.length dl) y.li → ChAt W (.slice (some ⟨gl, ol, none⟩) n n) (y.li.take n)) := fun W h => chat_take h n HNn.out (Nat.le_refl _)
              have m0 : (0 : Int) ≤ (n : Int) := by omega
              have m1 : (n : Int) ≤ (dl : Int) := by have := HNn.out; have := hcap.1; omega
              clear hy0 hcap
              go_region_held (fun w' => w'.cell? ⟨E, 0, none⟩ = some vn ∧ w'.cell? ⟨E, 1, none⟩ = some vw ∧ w'.cell? ⟨E, 2, none⟩ = some vf ∧ w'.cell? ⟨E, 3, none⟩ = some (.slice al n cl) ∧ w'.cell? ⟨F, 0, none⟩ = some un ∧ w'.cell? ⟨F, 1, none⟩ = some uw ∧ w'.cell? ⟨F, 2, none⟩ = some uf ∧ w'.cell? ⟨F, 3, none⟩ = some (.slice (some ⟨gl, ol, none⟩) y.li.length dl)) (go_keep) (first
                | (go_at_call 33; refine (HEb.out _ (bel (bdn HB2.out 1) HB3.out) _ (HPc.out _ (HA0.out.2.below (bel (bdn HB2.out 1) HB3.out)).li)).mono ?_; rintro e w4 ⟨rfl, hb4⟩; have HB4 : Hid (Below w3.heap.size w3 w4) := hb4; clear hb4; obtain ⟨b0'', b1'', b2'', b3''⟩ := cells4 ((HB4.out.block E (Nat.lt_of_lt_of_le lb2 HB3.out.size)).trans ((HB3.out.block E lb2).trans ((HB2.out.block E lb).trans HX0.out))); obtain ⟨d0'', d1'', d2'', d3''⟩ := cells4 ((HB4.out.block F (Nat.lt_of_lt_of_le ld2 HB3.out.size)).trans ((HB3.out.block F ld2).trans ((HB2.out.block F ld).trans HY0.out))))
                | (go_at_call 32; refine (HSn.out _ (bdn HB2.out 1)).mono ?_; rintro e w3 ⟨rfl, hb3⟩; have HB3 : Hid (Below w2.drew.heap.size w2.drew w3) := hb3; clear hb3; obtain ⟨b0', b1', b2', b3'⟩ := cells4 ((HB3.out.block E lb2).trans ((HB2.out.block E lb).trans HX0.out)); obtain ⟨d0', d1', d2', d3'⟩ := cells4 ((HB3.out.block F ld2).trans ((HB2.out.block F ld).trans HY0.out))))
              all_goals (
                go_wp2_with fail
                go_ret
                exact ⟨by rw [HY.out]; rfl, bel HB0.out (bel (bdn HB2.out 1) (bel HB3.out HB4.out))⟩)
  · have hle' : decide ((y.li.length : Int) < (x.li.length : Int)) = true := decide_eq_true (by omega)
    have HY : Hid (bg = false) := by show bg = false; rw [HBg.out]; exact begB_long x y hle
    have hle'' : decide (y.li.length < x.li.length) = true := decide_eq_true (by omega)
    clear hle HC1 HC2
    go_wp2_with fail
    go_ret
    exact ⟨by rw [HY.out] <;> simp, HB0.out⟩
end Go.Proofs.Ytfefgldngkpgjaa
