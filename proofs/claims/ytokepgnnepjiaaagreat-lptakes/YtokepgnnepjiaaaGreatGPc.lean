/- Texts PX PY, joined: what each part says stands ahead of it. -/
import Derived.Test.YtokepgnnepjiaaaGreatGPb
import Derived.BigRegion
/- Layer 12's Check at the netlist of an input and a delay. -/
namespace Go.Proofs.YtokepgnnepjiaaaGreat
set_option maxRecDepth 100000
open Go.RowKit Lg Nl Go.Maps
set_option linter.unusedVariables false
set_option linter.unusedSimpArgs false

set_option maxHeartbeats 1000000 in
theorem stim_nil (v0 v1 v2 : Value) (na : Option Addr) (n nc : Nat) (ta : Option Addr) (m tc : Nat) (pt : Int) (w : World) : Calls Tryz.prog 59 #[.slice none 0 0, .agg #[.slice na n nc, .slice ta m tc, .int .i64 pt]] w fun e w' => e = .returned (.bool true) ∧ Below w.heap.size w w' := by
  go_enter Tryz.func59, Tryz.ntmps59
  go_wp2_with fail
  go_loopw [9] (fun s9 W => s9 = .int .i64 0 ∧ Hid (Below w.heap.size w W)) (fun s9 W => 0)
  case atStart => exact ⟨rfl, belA (Below.refl _ _) _⟩
  case round =>
    obtain ⟨rfl, HB⟩ := hrel
    go_wp2_with fail
    go_ret
    exact ⟨rfl, HB.out⟩
theorem chk1 : chkE (L (⟨#[49]⟩ : ByteArray)) = 0 := by decide +kernel
set_option maxHeartbeats 2000000 in
theorem drives_c (NN I NT O M A B : Nat) (w : World) (hT : Tw NN I NT O M A B w) : Calls Tryz.prog 86 #[.agg #[.int .i64 3, .int .i64 0, .string ⟨#[49]⟩], .agg #[.slice (some ⟨NN, 0, none⟩) 2 2, .slice (some ⟨NT, 0, none⟩) 2 2, .int .i64 2]] w fun e w' => e = .returned (.bool true) ∧ Below w.heap.size w w' := by
  obtain ⟨W, hW⟩ : ∃ W, W = (w.alloc (.cells #[.int .i64 3, .int .i64 0, .string ⟨#[49]⟩] 74)).alloc (.cells #[.slice (some ⟨NN, 0, none⟩) 2 2, .slice (some ⟨NT, 0, none⟩) 2 2, .int .i64 2] 26) := ⟨_, rfl⟩
  have hb : Below w.heap.size w W := by rw [hW]; exact belA (belA (Below.refl _ _) _) _
  have HB : Hid (Below w.heap.size w W) := hb
  have hc : W.heap[w.heap.size]? = some (.cells #[.int .i64 3, .int .i64 0, .string ⟨#[49]⟩] 74 (0, 0)) := by rw [hW]; exact (alOld (by simp)).trans (alAt rfl)
  have hn : W.heap[w.heap.size + 1]? = some (.cells #[.slice (some ⟨NN, 0, none⟩) 2 2, .slice (some ⟨NT, 0, none⟩) 2 2, .int .i64 2] 26 (0, 0)) := by rw [hW]; exact alAt (by simp)
  obtain ⟨c0, c1, c2⟩ := cells3n hc
  obtain ⟨d0, d1, d2⟩ := cells3n hn
  have lc := hLt hc
  have ln := hLt hn
  obtain ⟨a0, a1, a2, a3, a4, a5, a6, a7⟩ := (⟨(hT.below hb).n00, (hT.below hb).n01, (hT.below hb).n02, (hT.below hb).n03, (hT.below hb).n04, (hT.below hb).n05, (hT.below hb).n06, (hT.below hb).n07⟩ : _ ∧ _ ∧ _ ∧ _ ∧ _ ∧ _ ∧ _ ∧ _)
  have t0 := (hT.below hb).t0
  have lNN := World.block_lt_of_cell? W ⟨NN, 0, none⟩ a0
  have lNT := World.block_lt_of_cell? W ⟨NT, 0, none⟩ t0
  have HC : Hid (∀ W, Calls Tryz.prog 50 #[.string ⟨#[49]⟩] W fun e w' => e = .returned (.int .i64 0) ∧ Below W.heap.size W w') := fun W => by have h := Check_c ⟨#[49]⟩ W (by decide); rw [chk1] at h; exact h
  clear hT hb hc hn
  go_enter Tryz.func86, Tryz.ntmps86
  go_wp2_with fail
  rw [← hW]
  clear hW
  go_region
  go_wp2_with (first
    | (go_at_call 50; refine (HC.out _).mono ?_; rintro e w5 ⟨rfl, hb5⟩))
  go_ret
  exact ⟨rfl, Q.belW (belA HB.out _) hb5⟩
set_option maxHeartbeats 4000000 in
theorem stim_one (NN I NT O M A B bS cS : Nat) (w : World) (hT : Tw NN I NT O M A B w) (s0 : w.cell? ⟨bS, 0, none⟩ = some (.int .i64 3)) (s1 : w.cell? ⟨bS, 1, none⟩ = some (.int .i64 0)) (s2 : w.cell? ⟨bS, 2, none⟩ = some (.string ⟨#[49]⟩)) : Calls Tryz.prog 59 #[.slice (some ⟨bS, 0, none⟩) 1 cS, .agg #[.slice (some ⟨NN, 0, none⟩) 2 2, .slice (some ⟨NT, 0, none⟩) 2 2, .int .i64 2]] w fun e w' => e = .returned (.bool true) ∧ Below w.heap.size w w' := by
  have HT : Hid (Tw NN I NT O M A B w) := hT
  have lS := World.block_lt_of_cell? w ⟨bS, 0, none⟩ s0
  clear hT
  go_enter Tryz.func59, Tryz.ntmps59
  go_wp2_with fail
  go_loopw [9] (fun s9 W => ∃ (i : Int), (i = 0 ∨ i = 1) ∧ s9 = .int .i64 i ∧ Hid (i = 0 → W = w.alloc (.cells #[.slice (some ⟨NN, 0, none⟩) 2 2, .slice (some ⟨NT, 0, none⟩) 2 2, .int .i64 2] 26)) ∧ Hid (Below w.heap.size w W)) (fun s9 W => 1 - (intOf s9).toNat)
  case atStart => exact ⟨0, Or.inl rfl, rfl, fun _ => rfl, belA (Below.refl _ _) _⟩
  case round =>
    obtain ⟨i, hi, rfl, H0, HB0⟩ := hrel
    rcases hi with rfl | rfl
    · rw [H0.out rfl]
      clear H0 HB0
      go_wp2_with fail
      obtain ⟨W, hW⟩ : ∃ W, W = (w.alloc (.cells #[.slice (some ⟨NN, 0, none⟩) 2 2, .slice (some ⟨NT, 0, none⟩) 2 2, .int .i64 2] 26)).alloc (.cells #[.int .i64 3, .int .i64 0, .string ⟨#[49]⟩] 74) := ⟨_, rfl⟩
      have HB : Hid (Below w.heap.size w W) := by rw [hW]; exact belA (belA (Below.refl _ _) _) _
      have hc : W.heap[w.heap.size + 1]? = some (.cells #[.int .i64 3, .int .i64 0, .string ⟨#[49]⟩] 74 (0, 0)) := by rw [hW]; exact alAt (by simp)
      have hn : W.heap[w.heap.size]? = some (.cells #[.slice (some ⟨NN, 0, none⟩) 2 2, .slice (some ⟨NT, 0, none⟩) 2 2, .int .i64 2] 26 (0, 0)) := by rw [hW]; exact (alOld (by simp)).trans (alAt rfl)
      obtain ⟨c0, c1, c2⟩ := cells3n hc
      obtain ⟨d0, d1, d2⟩ := cells3n hn
      have HD : Hid (∀ X, Below w.heap.size w X → Calls Tryz.prog 86 #[.agg #[.int .i64 3, .int .i64 0, .string ⟨#[49]⟩], .agg #[.slice (some ⟨NN, 0, none⟩) 2 2, .slice (some ⟨NT, 0, none⟩) 2 2, .int .i64 2]] X.drew fun e w' => e = .returned (.bool true) ∧ Below X.drew.heap.size X.drew w') := fun X hX => drives_c NN I NT O M A B X.drew (HT.out.below hX.drew)
      rw [← hW]
      clear hW hc hn
      refine wp_region_any (by kernel_rfl) ?_
      try (change wpAny _ _ _ _ _ _ _ (World.drew _))
      refine wpAny_take (i := 0) (oi := ⟨some 14, _, _, _, _, _⟩) (v := ?_) rfl (by kernel_rfl) (by kernel_rfl) (by kernel_rfl) (fun _ _ _ h => h) (Or.inl ⟨by kernel_rfl, ?_⟩) ?_
      rotate_left
      · intro w'; go_simp <;> with_reducible rfl
      try simp only [Act.put, List.setIfInBounds_toArray, List.set_cons_zero, List.set_cons_succ]
      refine wpAny_ready (rs := [1]) (by kernel_rfl) (by simp) ?_
      refine AllReady.cons rfl (fun K hK => ?_) ?_
      · go_simp
        refine hK _ _ ?_
        clear hK K
        try simp only [Act.put, List.setIfInBounds_toArray, List.set_cons_zero, List.set_cons_succ]
        refine wpAny_take (i := 2) (oi := ⟨some 16, _, _, _, _, _⟩) (v := ?_) rfl (by kernel_rfl) (by kernel_rfl) (by kernel_rfl) (fun _ _ _ h => h) (Or.inl ⟨by kernel_rfl, ?_⟩) ?_
        rotate_left
        · intro w'; go_simp <;> with_reducible rfl
        try simp only [Act.put, List.setIfInBounds_toArray, List.set_cons_zero, List.set_cons_succ]
        refine wpAny_take (i := 3) (oi := ⟨some 17, _, _, _, _, _⟩) (v := ?_) rfl (by kernel_rfl) (by kernel_rfl) (by kernel_rfl) (fun _ _ _ h => h) (Or.inl ⟨by kernel_rfl, ?_⟩) ?_
        rotate_left
        · intro w'; go_simp <;> with_reducible rfl
        try simp only [Act.put, List.setIfInBounds_toArray, List.set_cons_zero, List.set_cons_succ]
        refine wpAny_take (i := 4) (oi := ⟨some 18, _, _, _, _, _⟩) (v := ?_) rfl (by kernel_rfl) (by kernel_rfl) (by kernel_rfl) (fun _ _ _ h => h) (Or.inl ⟨by kernel_rfl, ?_⟩) ?_
        rotate_left
        · intro w'; go_simp <;> with_reducible rfl
        try simp only [Act.put, List.setIfInBounds_toArray, List.set_cons_zero, List.set_cons_succ]
        refine wpAny_ready (rs := [5]) (by kernel_rfl) (by simp) ?_
        refine AllReady.cons rfl (fun K hK => ?_) ?_
        · go_simp
          refine hK _ _ ?_
          clear hK K
          try simp only [Act.put, List.setIfInBounds_toArray, List.set_cons_zero, List.set_cons_succ]
          refine wpAny_take (i := 6) (oi := ⟨some 20, _, _, _, _, _⟩) (v := ?_) rfl (by kernel_rfl) (by kernel_rfl) (by kernel_rfl) (fun _ _ _ h => h) (Or.inl ⟨by kernel_rfl, ?_⟩) ?_
          rotate_left
          · intro w'; go_simp <;> with_reducible rfl
          try simp only [Act.put, List.setIfInBounds_toArray, List.set_cons_zero, List.set_cons_succ]
          refine wpAny_take (i := 7) (oi := ⟨some 21, _, _, _, _, _⟩) (v := ?_) rfl (by kernel_rfl) (by kernel_rfl) (by kernel_rfl) (fun _ _ _ h => h) (Or.inl ⟨by kernel_rfl, ?_⟩) ?_
          rotate_left
          · intro w'; go_simp <;> with_reducible rfl
          try simp only [Act.put, List.setIfInBounds_toArray, List.set_cons_zero, List.set_cons_succ]
          refine wpAny_take (i := 8) (oi := ⟨some 22, _, _, _, _, _⟩) (v := ?_) rfl (by kernel_rfl) (by kernel_rfl) (by kernel_rfl) (fun _ _ _ h => h) (Or.inl ⟨by kernel_rfl, ?_⟩) ?_
          rotate_left
          · intro w'; go_simp <;> with_reducible rfl
          try simp only [Act.put, List.setIfInBounds_toArray, List.set_cons_zero, List.set_cons_succ]
          refine wpAny_take (i := 9) (oi := ⟨some 23, _, _, _, _, _⟩) (v := ?_) rfl (by kernel_rfl) (by kernel_rfl) (by kernel_rfl) (fun _ _ _ h => h) (Or.inl ⟨by kernel_rfl, ?_⟩) ?_
          rotate_left
          · intro w'; go_simp <;> with_reducible rfl
          try simp only [Act.put, List.setIfInBounds_toArray, List.set_cons_zero, List.set_cons_succ]
          refine wpAny_take (i := 10) (oi := ⟨some 24, _, _, _, _, _⟩) (v := ?_) rfl (by kernel_rfl) (by kernel_rfl) (by kernel_rfl) (fun _ _ _ h => h) (Or.inl ⟨by kernel_rfl, ?_⟩) ?_
          rotate_left
          · intro w'; go_simp <;> with_reducible rfl
          try simp only [Act.put, List.setIfInBounds_toArray, List.set_cons_zero, List.set_cons_succ]
          refine wpAny_take (i := 11) (oi := ⟨some 25, _, _, _, _, _⟩) (v := ?_) rfl (by kernel_rfl) (by kernel_rfl) (by kernel_rfl) (fun _ _ _ h => h) (Or.inl ⟨by kernel_rfl, ?_⟩) ?_
          rotate_left
          · intro w'; go_simp <;> with_reducible rfl
          try simp only [Act.put, List.setIfInBounds_toArray, List.set_cons_zero, List.set_cons_succ]
          refine wpAny_take (i := 12) (oi := ⟨some 26, _, _, _, _, _⟩) (v := undef) rfl (by kernel_rfl) (by kernel_rfl) (by kernel_rfl) (fun _ _ _ h => h) (Or.inr ⟨by kernel_rfl, rfl⟩) ?_
          try simp only [Act.put, List.setIfInBounds_toArray, List.set_cons_zero, List.set_cons_succ]
          refine wpAny_take (i := 13) (oi := ⟨some 27, _, _, _, _, _⟩) (v := undef) rfl (by kernel_rfl) (by kernel_rfl) (by kernel_rfl) (fun _ _ _ h => h) (Or.inr ⟨by kernel_rfl, rfl⟩) ?_
          try simp only [Act.put, List.setIfInBounds_toArray, List.set_cons_zero, List.set_cons_succ]
          refine wpAny_take (i := 14) (oi := ⟨some 28, _, _, _, _, _⟩) (v := undef) rfl (by kernel_rfl) (by kernel_rfl) (by kernel_rfl) (fun _ _ _ h => h) (Or.inr ⟨by kernel_rfl, rfl⟩) ?_
          try simp only [Act.put, List.setIfInBounds_toArray, List.set_cons_zero, List.set_cons_succ]
          refine wpAny_take (i := 15) (oi := ⟨some 29, _, _, _, _, _⟩) (v := undef) rfl (by kernel_rfl) (by kernel_rfl) (by kernel_rfl) (fun _ _ _ h => h) (Or.inr ⟨by kernel_rfl, rfl⟩) ?_
          try simp only [Act.put, List.setIfInBounds_toArray, List.set_cons_zero, List.set_cons_succ]
          refine wpAny_take (i := 16) (oi := ⟨some 30, _, _, _, _, _⟩) (v := undef) rfl (by kernel_rfl) (by kernel_rfl) (by kernel_rfl) (fun _ _ _ h => h) (Or.inr ⟨by kernel_rfl, rfl⟩) ?_
          try simp only [Act.put, List.setIfInBounds_toArray, List.set_cons_zero, List.set_cons_succ]
          refine wpAny_take (i := 17) (oi := ⟨some 31, _, _, _, _, _⟩) (v := undef) rfl (by kernel_rfl) (by kernel_rfl) (by kernel_rfl) (fun _ _ _ h => h) (Or.inr ⟨by kernel_rfl, rfl⟩) ?_
          try simp only [Act.put, List.setIfInBounds_toArray, List.set_cons_zero, List.set_cons_succ]
          refine wpAny_take (i := 18) (oi := ⟨some 32, _, _, _, _, _⟩) (v := undef) rfl (by kernel_rfl) (by kernel_rfl) (by kernel_rfl) (fun _ _ _ h => h) (Or.inr ⟨by kernel_rfl, rfl⟩) ?_
          try simp only [Act.put, List.setIfInBounds_toArray, List.set_cons_zero, List.set_cons_succ]
          refine wpAny_take (i := 19) (oi := ⟨some 33, _, _, _, _, _⟩) (v := undef) rfl (by kernel_rfl) (by kernel_rfl) (by kernel_rfl) (fun _ _ _ h => h) (Or.inr ⟨by kernel_rfl, rfl⟩) ?_
          try simp only [Act.put, List.setIfInBounds_toArray, List.set_cons_zero, List.set_cons_succ]
          refine wpAny_take (i := 20) (oi := ⟨some 34, _, _, _, _, _⟩) (v := ?_) rfl (by kernel_rfl) (by kernel_rfl) (by kernel_rfl) (fun _ _ _ h => h) (Or.inl ⟨by kernel_rfl, ?_⟩) ?_
          rotate_left
          · intro w'; go_simp <;> with_reducible rfl
          try simp only [Act.put, List.setIfInBounds_toArray, List.set_cons_zero, List.set_cons_succ]
          refine wpAny_take (i := 21) (oi := ⟨some 35, _, _, _, _, _⟩) (v := ?_) rfl (by kernel_rfl) (by kernel_rfl) (by kernel_rfl) (fun _ _ _ h => h) (Or.inl ⟨by kernel_rfl, ?_⟩) ?_
          rotate_left
          · intro w'; go_simp <;> with_reducible rfl
          try simp only [Act.put, List.setIfInBounds_toArray, List.set_cons_zero, List.set_cons_succ]
          refine wpAny_take (i := 22) (oi := ⟨some 36, _, _, _, _, _⟩) (v := ?_) rfl (by kernel_rfl) (by kernel_rfl) (by kernel_rfl) (fun _ _ _ h => h) (Or.inl ⟨by kernel_rfl, ?_⟩) ?_
          rotate_left
          · intro w'; go_simp <;> with_reducible rfl
          try simp only [Act.put, List.setIfInBounds_toArray, List.set_cons_zero, List.set_cons_succ]
          refine wpAny_ready (rs := [23, 24]) (by kernel_rfl) (by simp) ?_
          refine AllReady.cons rfl (fun K hK => ?_) ?_
          · go_simp
            refine hK _ _ ?_
            clear hK K
            try simp only [Act.put, List.setIfInBounds_toArray, List.set_cons_zero, List.set_cons_succ]
            refine wpAny_ready (rs := [24]) (by kernel_rfl) (by simp) ?_
            refine AllReady.cons rfl (fun K hK => ?_) ?_
            · go_simp
              refine hK _ _ ?_
              clear hK K
              try simp only [Act.put, List.setIfInBounds_toArray, List.set_cons_zero, List.set_cons_succ]
              refine wpAny_ready (rs := [25]) (by kernel_rfl) (by simp) ?_
              refine AllReady.cons rfl (fun K hK => ?_) ?_
              · go_simp
                refine (HD.out _ HB.out).mono ?_
                rintro e w5 ⟨rfl, hb5⟩
                refine hK _ _ ?_
                clear hK K
                try simp only [Act.put, List.setIfInBounds_toArray, List.set_cons_zero, List.set_cons_succ]
                refine wpAny_take (i := 26) (oi := ⟨some 40, _, _, _, _, _⟩) (v := ?_) rfl (by kernel_rfl) (by kernel_rfl) (by kernel_rfl) (fun _ _ _ h => h) (Or.inl ⟨by kernel_rfl, ?_⟩) ?_
                rotate_left
                · intro w'; go_simp <;> with_reducible rfl
                try simp only [Act.put, List.setIfInBounds_toArray, List.set_cons_zero, List.set_cons_succ]
                refine wpAny_take (i := 27) (oi := ⟨some 41, _, _, _, _, _⟩) (v := ?_) rfl (by kernel_rfl) (by kernel_rfl) (by kernel_rfl) (fun _ _ _ h => h) (Or.inl ⟨by kernel_rfl, ?_⟩) ?_
                rotate_left
                · intro w'; go_simp <;> with_reducible rfl
                try simp only [Act.put, List.setIfInBounds_toArray, List.set_cons_zero, List.set_cons_succ]
                refine wpAny_done (by kernel_rfl) ?_ _
                go_wp2_with fail
                go_roundw
                case rel => exact ⟨1, Or.inr rfl, rfl, fun h => absurd h (by decide), bel HB.out.drew hb5⟩
                case measure => simp [intOf]
              exact AllReady.nil
            exact AllReady.nil
          refine AllReady.cons rfl (fun K hK => ?_) ?_
          · go_simp
            refine hK _ _ ?_
            clear hK K
            try simp only [Act.put, List.setIfInBounds_toArray, List.set_cons_zero, List.set_cons_succ]
            refine wpAny_ready (rs := [23]) (by kernel_rfl) (by simp) ?_
            refine AllReady.cons rfl (fun K hK => ?_) ?_
            · go_simp
              refine hK _ _ ?_
              clear hK K
              try simp only [Act.put, List.setIfInBounds_toArray, List.set_cons_zero, List.set_cons_succ]
              refine wpAny_ready (rs := [25]) (by kernel_rfl) (by simp) ?_
              refine AllReady.cons rfl (fun K hK => ?_) ?_
              · go_simp
                refine (HD.out _ HB.out).mono ?_
                rintro e w5 ⟨rfl, hb5⟩
                refine hK _ _ ?_
                clear hK K
                try simp only [Act.put, List.setIfInBounds_toArray, List.set_cons_zero, List.set_cons_succ]
                refine wpAny_take (i := 26) (oi := ⟨some 40, _, _, _, _, _⟩) (v := ?_) rfl (by kernel_rfl) (by kernel_rfl) (by kernel_rfl) (fun _ _ _ h => h) (Or.inl ⟨by kernel_rfl, ?_⟩) ?_
                rotate_left
                · intro w'; go_simp <;> with_reducible rfl
                try simp only [Act.put, List.setIfInBounds_toArray, List.set_cons_zero, List.set_cons_succ]
                refine wpAny_take (i := 27) (oi := ⟨some 41, _, _, _, _, _⟩) (v := ?_) rfl (by kernel_rfl) (by kernel_rfl) (by kernel_rfl) (fun _ _ _ h => h) (Or.inl ⟨by kernel_rfl, ?_⟩) ?_
                rotate_left
                · intro w'; go_simp <;> with_reducible rfl
                try simp only [Act.put, List.setIfInBounds_toArray, List.set_cons_zero, List.set_cons_succ]
                refine wpAny_done (by kernel_rfl) ?_ _
                go_wp2_with fail
                go_roundw
                case rel => exact ⟨1, Or.inr rfl, rfl, fun h => absurd h (by decide), bel HB.out.drew hb5⟩
                case measure => simp [intOf]
              exact AllReady.nil
            exact AllReady.nil
          exact AllReady.nil
        exact AllReady.nil
      exact AllReady.nil
    · go_wp2_with fail
      go_ret
      exact ⟨rfl, HB0.out⟩
end Go.Proofs.YtokepgnnepjiaaaGreat

/- Layer 12's Check; a process is refused. -/
namespace Go.Proofs.YtokepgnnepjiaaaGreat
set_option maxRecDepth 100000
open Go.RowKit Lg Nl Go.Maps
set_option linter.unusedVariables false
set_option linter.unusedSimpArgs false

set_option maxHeartbeats 2000000 in
theorem eCheck_c (NN I NT O M A B : Nat) (sa : Option Addr) (sn sc : Nat) (h : Int) (w : World) (hT : Tw NN I NT O M A B w) (h0 : 0 ≤ h) (h1 : h ≤ 1000)
    (hst : ∀ W, Below w.heap.size w W → Calls Tryz.prog 59 #[.slice sa sn sc, .agg #[.slice (some ⟨NN, 0, none⟩) 2 2, .slice (some ⟨NT, 0, none⟩) 2 2, .int .i64 2]] W fun e w' => e = .returned (.bool true) ∧ Below W.heap.size W w') :
    Calls Tryz.prog 17 #[.agg #[.slice (some ⟨NN, 0, none⟩) 2 2, .slice (some ⟨NT, 0, none⟩) 2 2, .int .i64 2], .slice sa sn sc, .int .i64 h] w fun e w' => e = .returned (.int .i64 0) ∧ Below w.heap.size w w' := by
  have key : ∀ X, Below w.heap.size w X → Calls Tryz.prog 31 #[.agg #[.slice (some ⟨NN, 0, none⟩) 2 2, .slice (some ⟨NT, 0, none⟩) 2 2, .int .i64 2], .slice sa sn sc, .int .i64 h] X fun e w' => (∃ T, e = .returned (.tuple #[.slice (some ⟨T, 0, none⟩) 2 2, .int .i64 0])) ∧ Below X.heap.size X w' := by
    intro X hX
    have HB : Hid (Below X.heap.size X (X.alloc (.cells #[.slice (some ⟨NN, 0, none⟩) 2 2, .slice (some ⟨NT, 0, none⟩) 2 2, .int .i64 2] 26))) := belA (Below.refl _ _) _
    have hT2 := hT.below (bel hX HB.out)
    have HL : Hid (Calls Tryz.prog 58 #[.agg #[.slice (some ⟨NN, 0, none⟩) 2 2, .slice (some ⟨NT, 0, none⟩) 2 2, .int .i64 2]] (X.alloc (.cells #[.slice (some ⟨NN, 0, none⟩) 2 2, .slice (some ⟨NT, 0, none⟩) 2 2, .int .i64 2] 26)) fun e w' => ∃ T, e = .returned (.tuple #[.slice (some ⟨T, 0, none⟩) 2 2, .int .i64 0]) ∧ Hid ((X.alloc (.cells #[.slice (some ⟨NN, 0, none⟩) 2 2, .slice (some ⟨NT, 0, none⟩) 2 2, .int .i64 2] 26)).heap.size ≤ T) ∧ T < w'.heap.size ∧ w'.cell? ⟨T, 0, none⟩ = some (.int .i64 0) ∧ w'.cell? ⟨T, 1, none⟩ = some (.int .i64 0) ∧ Below (X.alloc (.cells #[.slice (some ⟨NN, 0, none⟩) 2 2, .slice (some ⟨NT, 0, none⟩) 2 2, .int .i64 2] 26)).heap.size (X.alloc (.cells #[.slice (some ⟨NN, 0, none⟩) 2 2, .slice (some ⟨NT, 0, none⟩) 2 2, .int .i64 2] 26)) w') := pL_lvl _ _ _ hT2.nds hT2.nets
    have HX : Hid (Below w.heap.size w X) := hX
    have HS : Hid (∀ W, Below w.heap.size w W → Calls Tryz.prog 59 #[.slice sa sn sc, .agg #[.slice (some ⟨NN, 0, none⟩) 2 2, .slice (some ⟨NT, 0, none⟩) 2 2, .int .i64 2]] W fun e w' => e = .returned (.bool true) ∧ Below W.heap.size W w') := hst
    have hbx : (X.alloc (.cells #[.slice (some ⟨NN, 0, none⟩) 2 2, .slice (some ⟨NT, 0, none⟩) 2 2, .int .i64 2] 26)).heap[X.heap.size]? = some (.cells #[.slice (some ⟨NN, 0, none⟩) 2 2, .slice (some ⟨NT, 0, none⟩) 2 2, .int .i64 2] 26 (0, 0)) := alAt rfl
    have HBX : Hid ((X.alloc (.cells #[.slice (some ⟨NN, 0, none⟩) 2 2, .slice (some ⟨NT, 0, none⟩) 2 2, .int .i64 2] 26)).heap[X.heap.size]? = some (.cells #[.slice (some ⟨NN, 0, none⟩) 2 2, .slice (some ⟨NT, 0, none⟩) 2 2, .int .i64 2] 26 (0, 0))) := hbx
    clear hT hT2 hX hst hbx
    go_enter Tryz.func31, Tryz.ntmps31
    go_wp2_with (first
      | (go_at_call 58; refine HL.out.mono ?_; rintro e w2 ⟨T, rfl, HT, hTl, t0, t1, hb2⟩; have HB2 : Hid (Below X.heap.size X w2) := bel HB.out hb2; obtain ⟨x0, x1, x2⟩ := cells3n ((hb2.block X.heap.size (by simp)).trans HBX.out); have lx := hLt ((hb2.block X.heap.size (by simp)).trans HBX.out))
      | (go_at_call 59; refine (HS.out _ (bel HX.out HB2.out)).mono ?_; rintro e w3 ⟨rfl, hb3⟩))
    go_ret2
    exact ⟨⟨T, rfl⟩, bel HB2.out hb3⟩
  have HK : Hid (∀ X, Below w.heap.size w X → Calls Tryz.prog 31 #[.agg #[.slice (some ⟨NN, 0, none⟩) 2 2, .slice (some ⟨NT, 0, none⟩) 2 2, .int .i64 2], .slice sa sn sc, .int .i64 h] X fun e w' => (∃ T, e = .returned (.tuple #[.slice (some ⟨T, 0, none⟩) 2 2, .int .i64 0])) ∧ Below X.heap.size X w') := key
  clear key hst hT
  go_enter Tryz.func17, Tryz.ntmps17
  go_wp2_with (first
    | (go_at_call 31; refine (HK.out _ (belA (Below.refl _ _) _)).mono ?_; rintro e w2 ⟨⟨T, rfl⟩, hb2⟩))
  go_ret
  exact ⟨rfl, bel (belA (Below.refl _ _) _) hb2⟩
/-- the parts of the statements' netlist may be -/
theorem pChk (NN I NT O M A B : Nat) (W : World) (hT : Tw NN I NT O M A B W) : Calls Tryz.prog 18 #[.agg #[.slice (some ⟨NN, 0, none⟩) 2 2, .slice (some ⟨NT, 0, none⟩) 2 2, .int .i64 2], .agg #[.slice (some ⟨O, 0, none⟩) 2 2, .int .i64 2, .slice (some ⟨M, 0, none⟩) 2 2]] W fun e w' => e = .returned (.int .i64 0) ∧ Below W.heap.size W w' := pL_check _ _ _ _ W hT.nds hT.nets hT.of hT.rows pL_ok2
/-- no parts are none -/
theorem pChk0 (NN I NT O M A B : Nat) (W : World) (hT : Tw NN I NT O M A B W) : Calls Tryz.prog 18 #[.agg #[.slice (some ⟨NN, 0, none⟩) 2 2, .slice (some ⟨NT, 0, none⟩) 2 2, .int .i64 2], .agg #[.slice none 0 0, .int .i64 0, .slice none 0 0]] W fun e w' => e = .returned (.int .i64 1) ∧ Below W.heap.size W w' := by
  refine (pCheck_c pL [0, 1] [] [] 0 _ _ _ _ 2 W hT.nds hT.nets pL_fits (ints_nil _) ⟨none, 0, rfl, Nat.le_refl _, Or.inl rfl⟩).mono ?_
  rintro e w' ⟨hP, hb⟩
  rcases hP with ⟨h, _⟩ | ⟨_, h⟩
  · have := h.2.1; omega
  · exact ⟨h, hb⟩
end Go.Proofs.YtokepgnnepjiaaaGreat
