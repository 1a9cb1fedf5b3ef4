/- Layer 3 of the program: Run. -/
import Derived.Test.YteohmemifogdlaaZZA
namespace Go.Proofs.Yteohmemifogdlaa
open Go.RowKit Lg Go.Maps
set_option linter.unusedVariables false
set_option linter.unusedSimpArgs false

theorem run_end1 {w : World} {r : RB} : Below w.heap.size w ((w.alloc (.map #[] 0)).alloc (.cells r.cells 43)).drew ∧ RBl (w.heap.size + 1) r ((w.alloc (.map #[] 0)).alloc (.cells r.cells 43)).drew ∧ World.ownsMap ((w.alloc (.map #[] 0)).alloc (.cells r.cells 43)).drew Try.prog 9 rdV w.heap.size 0 (.map []) := by
  have h0 := World.ownsMap_made w Try.prog 9 rdV
  refine ⟨(((Below.refl _ _).alloc (Nat.le_refl _) _).alloc (by simp) _).drew, ?_, map_block h0 ?_⟩
  · show ((w.heap.push _).push _)[w.heap.size + 1]? = _
    rw [Array.getElem?_push, if_pos (by simp)]
  · show ((w.heap.push _).push _)[w.heap.size]? = (w.heap.push _)[w.heap.size]?
    rw [Array.getElem?_push, if_neg (by simp)]
theorem run_end2 {w : World} {r : RB} : Below w.heap.size w ((w.alloc (.cells r.cells 43)).alloc (.map #[] 0)).drew ∧ RBl w.heap.size r ((w.alloc (.cells r.cells 43)).alloc (.map #[] 0)).drew ∧ World.ownsMap ((w.alloc (.cells r.cells 43)).alloc (.map #[] 0)).drew Try.prog 9 rdV (w.heap.size + 1) 0 (.map []) := by
  have h0 := World.ownsMap_made (w.alloc (.cells r.cells 43)) Try.prog 9 rdV
  have hs : (w.alloc (.cells r.cells 43)).heap.size = w.heap.size + 1 := by simp
  rw [hs] at h0
  refine ⟨(((Below.refl _ _).alloc (Nat.le_refl _) _).alloc (by simp) _).drew, ?_, map_block h0 rfl⟩
  show ((w.heap.push _).push _)[w.heap.size]? = _
  rw [Array.getElem?_push, if_neg (by simp), Array.getElem?_push, if_pos rfl]
theorem all_tuple {b0 : Nat} {w w' : World} {res : Pr} {e : Ending} (h : AllOut b0 w res e w') : ∃ v1 v2, e = .returned (.tuple #[v1, v2]) ∧ AllOut b0 w res (.returned (.tuple #[v1, v2])) w' := by
  cases res with
  | no p c => obtain ⟨⟨g, rfl, h1⟩, h2⟩ := h; exact ⟨_, _, rfl, ⟨g, rfl, h1⟩, h2⟩
  | ok l => obtain ⟨⟨v, rfl, h1⟩, h2⟩ := h; exact ⟨_, _, rfl, ⟨v, rfl, h1⟩, h2⟩

set_option maxRecDepth 100000 in
set_option maxHeartbeats 4000000 in
theorem Run_c (src : List Tok) (e0 : Tok) (B g cap : Nat) (w : World) (hL : Lie w B g cap (src ++ [e0])) (hl : src.length ≤ 16384) (hsz : ∀ t ∈ src, t.x.length ≤ 65536) :
    Calls Try.prog 8 #[.slice (some ⟨g, 0, none⟩) (src ++ [e0]).length cap] w fun e w' => AllOut w.heap.size w (preL (src ++ [e0])) e w' := by
  have hg := hL.lt
  have hcap := hL.cap.1
  have hcap2 := hL.cap.2
  obtain ⟨c0, c1, c2⟩ := hL.get (i := src.length) (t := e0) (by simp)
  have HRC : Hid _ := fun b mb w1 h1 h2 h3 h4 h5 => run_call src e0 B g cap w hL hl hsz hg b mb w1 h1 h2 h3 h4 h5
  obtain ⟨n, hn⟩ : ∃ n, n = src.length := ⟨_, rfl⟩
  have hlen : (src ++ [e0]).length = n + 1 := by rw [List.length_append, hn]; rfl
  rw [hlen] at hcap hcap2
  rw [← hn] at c0 c1 c2 hl HRC
  rw [hlen]
  obtain ⟨k, x, p⟩ := e0
  obtain ⟨sx, hsx⟩ : ∃ sx, sx = S x := ⟨_, rfl⟩
  replace c0 : w.cell? ⟨g, n * 3, none⟩ = some (.int .i64 k) := c0
  replace c1 : w.cell? ⟨g, n * 3 + 1, none⟩ = some (.string sx) := by rw [hsx]; exact c1
  replace c2 : w.cell? ⟨g, n * 3 + 2, none⟩ = some (.int .i64 p) := c2
  have HSX : Hid _ := hsx
  have HL : Hid _ := hL
  clear hL hn hlen hsx hsz
  have k1 : ((n : Int) + 1 == 0) = false := by rw [beq_eq_false_iff_ne]; omega
  have k2 : decide ((16385 : Int) < (n : Int) + 1) = false := by simp; omega
  have hc1 : n ≤ cap := by omega
  have hi1 : (n : Int) < (n : Int) + 1 := by omega
  have hmm := @run_makeMap Try.prog
  go_enter Try.func8, Try.ntmps8
  go_wp2_with fail
  refine wp_region_any (by kernel_rfl) ?_
  try (change wpAny _ _ _ _ _ _ _ (World.drew _))
  refine wpAny_take (i := 0) (v := ?_) rfl (by kernel_rfl) (by kernel_rfl) (by kernel_rfl) (fun _ _ _ h => h) (Or.inl ⟨by kernel_rfl, ?_⟩) ?_
  rotate_left
  · intro w'; go_simp <;> with_reducible rfl
  try simp only [Act.put, List.setIfInBounds_toArray, List.set_cons_zero, List.set_cons_succ]
  refine wpAny_take (i := 1) (v := ?_) rfl (by kernel_rfl) (by kernel_rfl) (by kernel_rfl) (fun _ _ _ h => h) (Or.inl ⟨by kernel_rfl, ?_⟩) ?_
  rotate_left
  · intro w'; go_simp <;> with_reducible rfl
  try simp only [Act.put, List.setIfInBounds_toArray, List.set_cons_zero, List.set_cons_succ]
  refine wpAny_take (i := 2) (v := ?_) rfl (by kernel_rfl) (by kernel_rfl) (by kernel_rfl) (fun _ _ _ h => h) (Or.inl ⟨by kernel_rfl, ?_⟩) ?_
  rotate_left
  · intro w'; go_simp <;> with_reducible rfl
  try simp only [Act.put, List.setIfInBounds_toArray, List.set_cons_zero, List.set_cons_succ]
  refine wpAny_take (i := 3) (v := ?_) rfl (by kernel_rfl) (by kernel_rfl) (by kernel_rfl) (fun _ _ _ h => h) (Or.inl ⟨by kernel_rfl, ?_⟩) ?_
  rotate_left
  · intro w'; go_simp <;> with_reducible rfl
  try simp only [Act.put, List.setIfInBounds_toArray, List.set_cons_zero, List.set_cons_succ]
  refine wpAny_take (i := 4) (v := ?_) rfl (by kernel_rfl) (by kernel_rfl) (by kernel_rfl) (fun _ _ _ h => h) (Or.inl ⟨by kernel_rfl, ?_⟩) ?_
  rotate_left
  · intro w'; go_simp <;> with_reducible rfl
  try simp only [Act.put, List.setIfInBounds_toArray, List.set_cons_zero, List.set_cons_succ]
  refine wpAny_take (i := 5) (v := ?_) rfl (by kernel_rfl) (by kernel_rfl) (by kernel_rfl) (fun _ _ _ h => h) (Or.inl ⟨by kernel_rfl, ?_⟩) ?_
  rotate_left
  · intro w'; go_simp <;> with_reducible rfl
  try simp only [Act.put, List.setIfInBounds_toArray, List.set_cons_zero, List.set_cons_succ]
  refine wpAny_ready (rs := [6, 7, 9]) (by kernel_rfl) (by simp) ?_
  refine AllReady.cons rfl (fun K hK => ?_) ?_
  · go_simp
    refine hK _ _ ?_
    clear hK K
    refine wpAny_ready (rs := [7, 9]) (by kernel_rfl) (by simp) ?_
    refine AllReady.cons rfl (fun K hK => ?_) ?_
    · go_simp
      refine hK _ _ ?_
      clear hK K
      refine wpAny_take (i := 8) (v := ?_) rfl (by kernel_rfl) (by kernel_rfl) (by kernel_rfl) (fun _ _ _ h => h) (Or.inl ⟨by kernel_rfl, ?_⟩) ?_
      rotate_left
      · intro w'; go_simp <;> with_reducible rfl
      try simp only [Act.put, List.setIfInBounds_toArray, List.set_cons_zero, List.set_cons_succ]
      refine wpAny_ready (rs := [9]) (by kernel_rfl) (by simp) ?_
      refine AllReady.cons rfl (fun K hK => ?_) ?_
      · go_simp
        refine hK _ _ ?_
        clear hK K
        refine wpAny_ready (rs := [10]) (by kernel_rfl) (by simp) ?_
        refine AllReady.cons rfl (fun K hK => ?_) ?_
        · go_simp
          refine hK _ _ ?_
          clear hK K
          refine wpAny_done (by kernel_rfl) ?_ _
          have hx := HSX.out
          subst hx
          have HE := run_end1 (w := w) (r := ⟨cap, g, n, ⟨k, x, p⟩, 0, w.heap.size, .slice none 0 0, .slice none 0 0⟩)
          go_wp2_with (first | (go_at_call 12; refine (HRC.out (w.heap.size + 1) (w.heap.size) _ (by omega) (by omega) HE.1 HE.2.1 HE.2.2).mono ?_; intro e w2 q; obtain ⟨v1, v2, rfl, q⟩ := all_tuple q))
          go_ret2
          exact q
        exact AllReady.nil
      exact AllReady.nil
    refine AllReady.cons rfl (fun K hK => ?_) ?_
    · go_simp
      refine hK _ _ ?_
      clear hK K
      refine wpAny_ready (rs := [7]) (by kernel_rfl) (by simp) ?_
      refine AllReady.cons rfl (fun K hK => ?_) ?_
      · go_simp
        refine hK _ _ ?_
        clear hK K
        refine wpAny_take (i := 8) (v := ?_) rfl (by kernel_rfl) (by kernel_rfl) (by kernel_rfl) (fun _ _ _ h => h) (Or.inl ⟨by kernel_rfl, ?_⟩) ?_
        rotate_left
        · intro w'; go_simp <;> with_reducible rfl
        try simp only [Act.put, List.setIfInBounds_toArray, List.set_cons_zero, List.set_cons_succ]
        refine wpAny_ready (rs := [10]) (by kernel_rfl) (by simp) ?_
        refine AllReady.cons rfl (fun K hK => ?_) ?_
        · go_simp
          refine hK _ _ ?_
          clear hK K
          refine wpAny_done (by kernel_rfl) ?_ _
          have hx := HSX.out
          subst hx
          have HE := run_end2 (w := w) (r := ⟨cap, g, n, ⟨k, x, p⟩, 0, w.heap.size + 1, .slice none 0 0, .slice none 0 0⟩)
          go_wp2_with (first | (go_at_call 12; refine (HRC.out (w.heap.size) (w.heap.size + 1) _ (by omega) (by omega) HE.1 HE.2.1 HE.2.2).mono ?_; intro e w2 q; obtain ⟨v1, v2, rfl, q⟩ := all_tuple q))
          go_ret2
          exact q
        exact AllReady.nil
      exact AllReady.nil
    exact AllReady.nil
  refine AllReady.cons rfl (fun K hK => ?_) ?_
  · go_simp
    refine hK _ _ ?_
    clear hK K
    refine wpAny_ready (rs := [6, 9]) (by kernel_rfl) (by simp) ?_
    refine AllReady.cons rfl (fun K hK => ?_) ?_
    · go_simp
      refine hK _ _ ?_
      clear hK K
      refine wpAny_take (i := 8) (v := ?_) rfl (by kernel_rfl) (by kernel_rfl) (by kernel_rfl) (fun _ _ _ h => h) (Or.inl ⟨by kernel_rfl, ?_⟩) ?_
      rotate_left
      · intro w'; go_simp <;> with_reducible rfl
      try simp only [Act.put, List.setIfInBounds_toArray, List.set_cons_zero, List.set_cons_succ]
      refine wpAny_ready (rs := [9]) (by kernel_rfl) (by simp) ?_
      refine AllReady.cons rfl (fun K hK => ?_) ?_
      · go_simp
        refine hK _ _ ?_
        clear hK K
        refine wpAny_ready (rs := [10]) (by kernel_rfl) (by simp) ?_
        refine AllReady.cons rfl (fun K hK => ?_) ?_
        · go_simp
          refine hK _ _ ?_
          clear hK K
          refine wpAny_done (by kernel_rfl) ?_ _
          have hx := HSX.out
          subst hx
          have HE := run_end1 (w := w) (r := ⟨cap, g, n, ⟨k, x, p⟩, 0, w.heap.size, .slice none 0 0, .slice none 0 0⟩)
          go_wp2_with (first | (go_at_call 12; refine (HRC.out (w.heap.size + 1) (w.heap.size) _ (by omega) (by omega) HE.1 HE.2.1 HE.2.2).mono ?_; intro e w2 q; obtain ⟨v1, v2, rfl, q⟩ := all_tuple q))
          go_ret2
          exact q
        exact AllReady.nil
      exact AllReady.nil
    refine AllReady.cons rfl (fun K hK => ?_) ?_
    · go_simp
      refine hK _ _ ?_
      clear hK K
      refine wpAny_ready (rs := [6]) (by kernel_rfl) (by simp) ?_
      refine AllReady.cons rfl (fun K hK => ?_) ?_
      · go_simp
        refine hK _ _ ?_
        clear hK K
        refine wpAny_take (i := 8) (v := ?_) rfl (by kernel_rfl) (by kernel_rfl) (by kernel_rfl) (fun _ _ _ h => h) (Or.inl ⟨by kernel_rfl, ?_⟩) ?_
        rotate_left
        · intro w'; go_simp <;> with_reducible rfl
        try simp only [Act.put, List.setIfInBounds_toArray, List.set_cons_zero, List.set_cons_succ]
        refine wpAny_ready (rs := [10]) (by kernel_rfl) (by simp) ?_
        refine AllReady.cons rfl (fun K hK => ?_) ?_
        · go_simp
          refine hK _ _ ?_
          clear hK K
          refine wpAny_done (by kernel_rfl) ?_ _
          have hx := HSX.out
          subst hx
          have HE := run_end1 (w := w) (r := ⟨cap, g, n, ⟨k, x, p⟩, 0, w.heap.size, .slice none 0 0, .slice none 0 0⟩)
          go_wp2_with (first | (go_at_call 12; refine (HRC.out (w.heap.size + 1) (w.heap.size) _ (by omega) (by omega) HE.1 HE.2.1 HE.2.2).mono ?_; intro e w2 q; obtain ⟨v1, v2, rfl, q⟩ := all_tuple q))
          go_ret2
          exact q
        exact AllReady.nil
      exact AllReady.nil
    exact AllReady.nil
  refine AllReady.cons rfl (fun K hK => ?_) ?_
  · go_simp
    refine hK _ _ ?_
    clear hK K
    refine wpAny_ready (rs := [6, 7]) (by kernel_rfl) (by simp) ?_
    refine AllReady.cons rfl (fun K hK => ?_) ?_
    · go_simp
      refine hK _ _ ?_
      clear hK K
      refine wpAny_ready (rs := [7]) (by kernel_rfl) (by simp) ?_
      refine AllReady.cons rfl (fun K hK => ?_) ?_
      · go_simp
        refine hK _ _ ?_
        clear hK K
        refine wpAny_take (i := 8) (v := ?_) rfl (by kernel_rfl) (by kernel_rfl) (by kernel_rfl) (fun _ _ _ h => h) (Or.inl ⟨by kernel_rfl, ?_⟩) ?_
        rotate_left
        · intro w'; go_simp <;> with_reducible rfl
        try simp only [Act.put, List.setIfInBounds_toArray, List.set_cons_zero, List.set_cons_succ]
        refine wpAny_ready (rs := [10]) (by kernel_rfl) (by simp) ?_
        refine AllReady.cons rfl (fun K hK => ?_) ?_
        · go_simp
          refine hK _ _ ?_
          clear hK K
          refine wpAny_done (by kernel_rfl) ?_ _
          have hx := HSX.out
          subst hx
          have HE := run_end2 (w := w) (r := ⟨cap, g, n, ⟨k, x, p⟩, 0, w.heap.size + 1, .slice none 0 0, .slice none 0 0⟩)
          go_wp2_with (first | (go_at_call 12; refine (HRC.out (w.heap.size) (w.heap.size + 1) _ (by omega) (by omega) HE.1 HE.2.1 HE.2.2).mono ?_; intro e w2 q; obtain ⟨v1, v2, rfl, q⟩ := all_tuple q))
          go_ret2
          exact q
        exact AllReady.nil
      exact AllReady.nil
    refine AllReady.cons rfl (fun K hK => ?_) ?_
    · go_simp
      refine hK _ _ ?_
      clear hK K
      refine wpAny_ready (rs := [6]) (by kernel_rfl) (by simp) ?_
      refine AllReady.cons rfl (fun K hK => ?_) ?_
      · go_simp
        refine hK _ _ ?_
        clear hK K
        refine wpAny_take (i := 8) (v := ?_) rfl (by kernel_rfl) (by kernel_rfl) (by kernel_rfl) (fun _ _ _ h => h) (Or.inl ⟨by kernel_rfl, ?_⟩) ?_
        rotate_left
        · intro w'; go_simp <;> with_reducible rfl
        try simp only [Act.put, List.setIfInBounds_toArray, List.set_cons_zero, List.set_cons_succ]
        refine wpAny_ready (rs := [10]) (by kernel_rfl) (by simp) ?_
        refine AllReady.cons rfl (fun K hK => ?_) ?_
        · go_simp
          refine hK _ _ ?_
          clear hK K
          refine wpAny_done (by kernel_rfl) ?_ _
          have hx := HSX.out
          subst hx
          have HE := run_end2 (w := w) (r := ⟨cap, g, n, ⟨k, x, p⟩, 0, w.heap.size + 1, .slice none 0 0, .slice none 0 0⟩)
          go_wp2_with (first | (go_at_call 12; refine (HRC.out (w.heap.size) (w.heap.size + 1) _ (by omega) (by omega) HE.1 HE.2.1 HE.2.2).mono ?_; intro e w2 q; obtain ⟨v1, v2, rfl, q⟩ := all_tuple q))
          go_ret2
          exact q
        exact AllReady.nil
      exact AllReady.nil
    exact AllReady.nil
  exact AllReady.nil
end Go.Proofs.Yteohmemifogdlaa
