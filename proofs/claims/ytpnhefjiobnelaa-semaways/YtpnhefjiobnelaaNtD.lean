/- Layer 7 of the program: one statement on a way. -/
import Derived.Test.YtpnhefjiobnelaaNtC
namespace Go.Proofs.Ytpnhefjiobnelaa
open Go.RowKit Lg Rp Go.Maps
set_option linter.unusedVariables false
set_option linter.unusedSimpArgs false

theorem zWayC {cb mb k' ab tb ub n' m cp : Nat} {tg : Asc} {so so' : Option (List UInt8)} {fr : List (List UInt8)} {ao : Option Addr} {w : World} (hq : wyM fr so = some so') (hlo : ub < w.heap.size) (HS : Calls Try.prog 88 #[.pointer (some ⟨ab, 0, none⟩), .slice ao m cp] w fun e w' => (∃ v, e = .returned v ∧ Fr w' w.heap.size fr v) ∧ Pz cb mb k' ab tb ub n' tg so w' ∧ Kz cb ub ub w w') :
    (∀ x ∈ fr, x.length ≤ 1000000) ∧ Calls Try.prog 95 #[.pointer (some ⟨ab, 0, none⟩), .slice ao m cp] w fun e w' => ∃ vo vm vc, e = .returned (.slice vo vm vc) ∧ Fr w' w.heap.size fr (.slice vo vm vc) ∧ Pz cb mb k' ab tb ub n' tg so' w' ∧ Kz cb ub ub w w' := by
  cases fr with
  | nil =>
    unfold wyM at hq
    injection hq with hq
    subst hq
    exact ⟨(fun x hx => by cases hx), (zWay0 HS).mono fun e w' ⟨h1, h2, h3⟩ => ⟨_, _, _, h1, Or.inl ⟨rfl, rfl⟩, h2, h3⟩⟩
  | cons x l =>
    unfold wyM at hq
    simp only at hq
    split at hq
    · rename_i hc
      obtain ⟨rfl, rfl, hx⟩ := hc
      injection hq with hq
      subst hq
      refine ⟨fun y hy => by simp at hy; subst hy; exact hx, (zWay1 hx hlo HS).mono fun e w' ⟨⟨v, h1, h2⟩, h3, h4⟩ => ?_⟩
      obtain ⟨vo, vm, vc, rfl, _⟩ := h2.slice_
      exact ⟨vo, vm, vc, h1, h2, h3, h4⟩
    · cases hq
set_option maxRecDepth 100000 in
set_option maxHeartbeats 2000000 in
theorem zStmtA {cb mb ab tb ub F g o k k1 k' n n' : Nat} {tg : Asc} {x : List Dc} {vs : List Value} {so so' : Option (List UInt8)} {fr : List (List UInt8)} {nm : List UInt8} {w : World} (hk : k < 32768) (h0 : gI x 0 = some 1) (h1 : gT x 1 = some nm) (hr : rM tg F (.ex ((x.drop 2).take 6)) (k + 1) = some k1) (hst : stM tg nm k1 so n = some (fr, so', k', n')) (h : Pz cb mb k ab tb ub n tg so w) (hX : Xa w cb g o x vs) : Calls Try.prog 91 #[.pointer (some ⟨ab, 0, none⟩), .pointer (some ⟨g, o, none⟩)] w fun e w' => (∃ v, e = .returned v ∧ Fr w' w.heap.size fr v) ∧ Pz cb mb k' ab tb ub n' tg so' w' ∧ Kz cb ub ub w w' := by
  have hlt0 : cb < ub := by have := h.h.l1; have := h.l3; omega
  have hul := h.u.lt
  have hgl := hX.hl
  have hgc := hX.hg
  obtain ⟨q0, q1, q2, ql⟩ := h.at_
  have HL := sLookC h.c hk
  have HR := fun w' (hp : Pz cb mb (k + 1) ab tb ub n tg so w') (hx : Xa w' cb g o x vs) => zRead hr hp (hx.sub 2 6)
  have HA : Hid (∀ w', Pz cb mb k1 ab tb ub n tg so w' → Calls Try.prog 93 #[.pointer (some ⟨ab, 0, none⟩), .string (S nm)] w' fun e w'' => ∃ vo vm vc, e = .returned (.slice vo vm vc) ∧ Fr w'' w'.heap.size fr (.slice vo vm vc) ∧ Pz cb mb k' ab tb ub n' tg so' w'' ∧ Kz cb ub ub w' w'') := by
    intro w' hp
    unfold Rp.stM at hst
    split at hst
    · rename_i hc
      split at hst
      · rename_i e
        subst e
        simp only [Option.some.injEq, Prod.mk.injEq] at hst
        obtain ⟨rfl, rfl, rfl, rfl⟩ := hst
        refine (zAssignedY hp nm hc.1 hc.2).mono fun e w'' ⟨⟨v, e1, e2⟩, e3, e4⟩ => ?_
        obtain ⟨vo, vm, vc, rfl, _⟩ := e2.slice_
        exact ⟨vo, vm, vc, e1, e2, e3, Kz.of2 e4⟩
      · split at hst
        · rename_i _ e
          subst e
          simp only [Option.some.injEq, Prod.mk.injEq] at hst
          obtain ⟨rfl, rfl, rfl, rfl⟩ := hst
          refine (zAssignedN nm hp hc.1).mono fun e w'' ⟨e1, e2⟩ => ?_
          subst e2
          exact ⟨_, _, _, e1, Or.inl ⟨rfl, rfl⟩, hp, Kz.refl _ _ _ _⟩
        · cases hst
    · cases hst
  have HP : Hid (Pz cb mb k ab tb ub n tg so w) := h
  have HX : Hid (Xa w cb g o x vs) := hX
  have H0 : Hid (gI x 0 = some 1) := h0
  have H1 : Hid (gT x 1 = some nm) := h1
  obtain ⟨sx, hsx⟩ : ∃ sx, sx = S nm := ⟨_, rfl⟩
  rw [← hsx] at HA
  have HSX : Hid (sx = S nm) := hsx
  clear h hX h0 h1 hr hst hsx
  go_enter Try.func91, Try.ntmps91
  go_wp2_with (first
    | (have hy := hp2; go_at_call 93; refine (HA.out _ hp2).mono ?_; rintro e w3 ⟨vo, vm, vc, rfl, hf3, hp3, hk3⟩)
    | (go_at_call 34; refine HL.mono ?_; rintro e w1 ⟨rfl, hc1, hk1⟩; have hp1 := HP.out.look hc1 hk1; have hx1 := HX.out.kp hk1; have c0 := hx1.i H0.out; rw [Nat.add_zero] at c0; have gl1 := hx1.hl)
    | (go_at_call 92; refine (HR _ hp1 hx1).mono ?_; rintro e w2 ⟨rfl, hp2, hk2⟩; have hx2 := hx1.kp hk2; have c1 := hx2.t H1.out; rw [← HSX.out] at c1; have gl2 := hx2.hl))
  go_ret
  have a1 := hk1.size
  have a2 := hk2.size
  exact ⟨⟨_, rfl, hf3.mono (by omega)⟩, hp3, ((Kz.of1 hk1).trans (Kz.of1 hk2)).trans hk3⟩
set_option maxRecDepth 100000 in
set_option maxHeartbeats 4000000 in
theorem zStmtB {cb mb ab tb ub F g o k k1 k2 k' n n' n1 n2 m2 m3 : Nat} {tg : Asc} {x bd el : List Dc} {vs : List Value} {so so' s1 s1' s2 s2' : Option (List UInt8)} {fr f1 f2 : List (List UInt8)} {w : World} (IH0 : ∀ F', F' < F → ZsC cb mb ab tb ub tg F') (hk : k < 32768) (h0 : gI x 0 = some 3) (hr : rM tg F (.ex ((x.drop 2).take 6)) (k + 1) = some k1) (h8 : gS x 8 = some (n1, bd)) (h9 : gS x 9 = some (n2, el)) (hb1 : n1 ≤ 100000) (hb2 : n2 ≤ 100000) (hm1 : zM tg F (.many n1 0 bd []) so k1 n = some (f1, s1, k2, m2)) (hy1 : wyM f1 s1 = some s1') (hm2 : zM tg F (.many n2 0 el []) s1' k2 m2 = some (f2, s2, k', m3)) (hy2 : wyM f2 s2 = some s2') (hbh : bhM s2' m3 f1 f2 = some (fr, so', n')) (h : Pz cb mb k ab tb ub n tg so w) (hX : Xa w cb g o x vs) : Calls Try.prog 91 #[.pointer (some ⟨ab, 0, none⟩), .pointer (some ⟨g, o, none⟩)] w fun e w' => (∃ v, e = .returned v ∧ Fr w' w.heap.size fr v) ∧ Pz cb mb k' ab tb ub n' tg so' w' ∧ Kz cb ub ub w w' := by
  have hlt0 : cb < ub := by have := h.h.l1; have := h.l3; omega
  have hul := h.u.lt
  have hgl := hX.hl
  have hgc := hX.hg
  obtain ⟨q0, q1, q2, ql⟩ := h.at_
  have HL := sLookC h.c hk
  have HR := fun w' (hp : Pz cb mb (k + 1) ab tb ub n tg so w') (hx : Xa w' cb g o x vs) => zRead hr hp (hx.sub 2 6)
  obtain ⟨a8, c8, _, hc8, hkid8⟩ := hX.s h8
  obtain ⟨a9, c9, _, hc9, hkid9⟩ := hX.s h9
  have HB1 : Hid (∀ w', Pz cb mb k1 ab tb ub n tg so w' → Kz cb ub ub w w' → (∀ x ∈ f1, x.length ≤ 1000000) ∧ Calls Try.prog 95 #[.pointer (some ⟨ab, 0, none⟩), .slice a8 n1 c8] w' fun e w'' => ∃ vo vm vc, e = .returned (.slice vo vm vc) ∧ Fr w'' w'.heap.size f1 (.slice vo vm vc) ∧ Pz cb mb k2 ab tb ub m2 tg s1' w'' ∧ Kz cb ub ub w' w'') := fun w' hp hk => zWayC hy1 hp.u.lt (zStmts IH0 hm1 hb1 hp (by
    rcases hkid8 with e | ⟨gk, us, e1, e2, e3⟩
    · exact Or.inl e
    · exact Or.inr ⟨gk, us, e1, e2, e3.kz2 hk hlt0⟩))
  have HB2 : Hid (∀ w', Pz cb mb k2 ab tb ub m2 tg s1' w' → Kz cb ub ub w w' → (∀ x ∈ f2, x.length ≤ 1000000) ∧ Calls Try.prog 95 #[.pointer (some ⟨ab, 0, none⟩), .slice a9 n2 c9] w' fun e w'' => ∃ vo vm vc, e = .returned (.slice vo vm vc) ∧ Fr w'' w'.heap.size f2 (.slice vo vm vc) ∧ Pz cb mb k' ab tb ub m3 tg s2' w'' ∧ Kz cb ub ub w' w'') := fun w' hp hk => zWayC hy2 hp.u.lt (zStmts IH0 hm2 hb2 hp (by
    rcases hkid9 with e | ⟨gk, us, e1, e2, e3⟩
    · exact Or.inl e
    · exact Or.inr ⟨gk, us, e1, e2, e3.kz2 hk hlt0⟩))
  have HBE : Hid (∀ w5 vo4 vm4 vc4 vo5 vm5 vc5 B, Pz cb mb k' ab tb ub m3 tg s2' w5 → Fr w5 B f1 (.slice vo4 vm4 vc4) → Fr w5 B f2 (.slice vo5 vm5 vc5) → (∀ x ∈ f1, x.length ≤ 1000000) → (∀ x ∈ f2, x.length ≤ 1000000) →
      Calls Try.prog 94 #[.pointer (some ⟨ab, 0, none⟩), .slice (some ⟨w5.heap.size, 0, none⟩) 2 2] (w5.alloc (.cells #[.slice vo4 vm4 vc4, .slice vo5 vm5 vc5] 99)) fun e w' => ∃ vo vm vc, e = .returned (.slice vo vm vc) ∧ Fr w' (w5.alloc (.cells #[.slice vo4 vm4 vc4, .slice vo5 vm5 vc5] 99)).heap.size fr (.slice vo vm vc) ∧ Pz cb mb k' ab tb ub n' tg so' w' ∧ Kp ub (w5.alloc (.cells #[.slice vo4 vm4 vc4, .slice vo5 vm5 vc5] 99)) w') := by
    intro w5 vo4 vm4 vc4 vo5 vm5 vc5 B hp5 hf4 hf5 hl4 hl5
    refine (zBehind (wb := w5.heap.size) (B := B) hbh (hp5.below bxS) (by rw [Lib.cell_of_heap (heap_alloc_last w5 _)]; rfl) (by rw [Lib.cell_of_heap (heap_alloc_last w5 _)]; rfl) (by simp) (hf4.bel bxS) (hf5.bel bxS) hl4 hl5).mono fun e w' ⟨⟨v, e1, e2⟩, e3, e4⟩ => ?_
    obtain ⟨vo, vm, vc, rfl, _⟩ := e2.slice_
    exact ⟨vo, vm, vc, e1, e2, e3, e4⟩
  have HC : Hid (∀ w', Kz cb ub ub w w' → w'.cell? ⟨g, o + 8, none⟩ = some (.slice a8 n1 c8) ∧ w'.cell? ⟨g, o + 9, none⟩ = some (.slice a9 n2 c9) ∧ g < w'.heap.size) := fun w' hk => by
    have e : ∀ j, w'.cell? ⟨g, o + j, none⟩ = w.cell? ⟨g, o + j, none⟩ := fun j => World.cell?_of_block (w := w) (a := ⟨g, o + j, none⟩) (hk.block g hgl (by omega) (by omega) (by omega))
    exact ⟨(e 8).trans hc8, (e 9).trans hc9, Nat.lt_of_lt_of_le hgl hk.size⟩
  have HP : Hid (Pz cb mb k ab tb ub n tg so w) := h
  have HX : Hid (Xa w cb g o x vs) := hX
  have H0 : Hid (gI x 0 = some 3) := h0
  clear IH0 h hX h0 hr h8 h9 hm1 hm2 hkid8 hkid9 hc8 hc9 hy1 hy2 hbh
  go_enter Try.func91, Try.ntmps91
  go_wp2_with (first
    | (go_at_call 34; refine HL.mono ?_; rintro e w1 ⟨rfl, hc1, hk1⟩; have hp1 := HP.out.look hc1 hk1; have hx1 := HX.out.kp hk1; have c0 := hx1.i H0.out; rw [Nat.add_zero] at c0; have gl1 := hx1.hl)
    | (go_at_call 92; refine (HR _ hp1 hx1).mono ?_; rintro e w2 ⟨rfl, hp2, hk2⟩; have hz2 : Kz cb ub ub w w2 := (Kz.of1 hk1).trans (Kz.of1 hk2); have hg2 := HC.out _ hz2; obtain ⟨y8, y9, yl⟩ := hg2))
  refine wp_region_any (by kernel_rfl) ?_
  try (change wpAny _ _ _ _ _ _ _ (World.drew _))
  refine wpAny_take (i := 0) (v := ?_) rfl (by kernel_rfl) (by kernel_rfl) (by kernel_rfl) (fun _ _ _ h => h) (Or.inl ⟨by kernel_rfl, ?_⟩) ?_
  rotate_left
  · intro w'; go_simp <;> with_reducible rfl
  try simp only [Act.put, List.setIfInBounds_toArray, List.set_cons_zero, List.set_cons_succ]
  refine wpAny_take (i := 1) (v := ?_) rfl (by kernel_rfl) (by kernel_rfl) (by kernel_rfl) (fun _ _ _ h => h) (Or.inl ⟨by kernel_rfl, ?_⟩) ?_
  rotate_left
  · intro w'; go_simp <;> with_reducible rfl
  try simp only [Act.put, List.setIfInBounds_toArray, List.set_cons_zero, List.set_cons_succ]
  refine wpAny_take (i := 2) (v := ?_) rfl (by kernel_rfl) (by kernel_rfl) (by kernel_rfl) (fun _ _ _ h => h) (Or.inl ⟨by kernel_rfl, ?_⟩) ?_
  rotate_left
  · intro w'; go_simp <;> with_reducible rfl
  try simp only [Act.put, List.setIfInBounds_toArray, List.set_cons_zero, List.set_cons_succ]
  refine wpAny_take (i := 3) (v := ?_) rfl (by kernel_rfl) (by kernel_rfl) (by kernel_rfl) (fun _ _ _ h => h) (Or.inl ⟨by kernel_rfl, ?_⟩) ?_
  rotate_left
  · intro w'; go_simp <;> with_reducible rfl
  try simp only [Act.put, List.setIfInBounds_toArray, List.set_cons_zero, List.set_cons_succ]
  refine wpAny_take (i := 4) (v := ?_) rfl (by kernel_rfl) (by kernel_rfl) (by kernel_rfl) (fun _ _ _ h => h) (Or.inl ⟨by kernel_rfl, ?_⟩) ?_
  rotate_left
  · intro w'; go_simp <;> with_reducible rfl
  try simp only [Act.put, List.setIfInBounds_toArray, List.set_cons_zero, List.set_cons_succ]
  refine wpAny_take (i := 7) (v := ?_) rfl (by kernel_rfl) (by kernel_rfl) (by kernel_rfl) (fun _ _ _ h => h) (Or.inl ⟨by kernel_rfl, ?_⟩) ?_
  rotate_left
  · intro w'; go_simp <;> with_reducible rfl
  try simp only [Act.put, List.setIfInBounds_toArray, List.set_cons_zero, List.set_cons_succ]
  refine wpAny_take (i := 8) (v := ?_) rfl (by kernel_rfl) (by kernel_rfl) (by kernel_rfl) (fun _ _ _ h => h) (Or.inl ⟨by kernel_rfl, ?_⟩) ?_
  rotate_left
  · intro w'; go_simp <;> with_reducible rfl
  try simp only [Act.put, List.setIfInBounds_toArray, List.set_cons_zero, List.set_cons_succ]
  refine wpAny_take (i := 9) (v := ?_) rfl (by kernel_rfl) (by kernel_rfl) (by kernel_rfl) (fun _ _ _ h => h) (Or.inl ⟨by kernel_rfl, ?_⟩) ?_
  rotate_left
  · intro w'; go_simp <;> with_reducible rfl
  try simp only [Act.put, List.setIfInBounds_toArray, List.set_cons_zero, List.set_cons_succ]
  refine wpAny_take (i := 10) (v := ?_) rfl (by kernel_rfl) (by kernel_rfl) (by kernel_rfl) (fun _ _ _ h => h) (Or.inl ⟨by kernel_rfl, ?_⟩) ?_
  rotate_left
  · intro w'; go_simp <;> with_reducible rfl
  try simp only [Act.put, List.setIfInBounds_toArray, List.set_cons_zero, List.set_cons_succ]
  refine wpAny_ready (rs := [5, 11]) (by kernel_rfl) (by simp) ?_
  refine AllReady.cons rfl (fun K hK => ?_) ?_
  · go_simp
    refine hK _ _ ?_
    clear hK K
    refine wpAny_ready (rs := [6, 11]) (by kernel_rfl) (by simp) ?_
    refine AllReady.cons rfl (fun K hK => ?_) ?_
    · go_simp
      have hul2 := hp2.u.lt
      refine (HB1.out _ (hp2.below belD) (hz2.trans (Kz.of belD))).2.mono ?_
      rintro e w4 ⟨vo4, vm4, vc4, rfl, hf4, hp4, hk4⟩
      have hl4 : Hid (∀ x ∈ f1, x.length ≤ 1000000) := (HB1.out _ (hp2.below belD) (hz2.trans (Kz.of belD))).1
      have hz4 := (hz2.trans (Kz.of belD)).trans hk4
      have hle4 : w2.heap.size ≤ w4.heap.size := hk4.size
      obtain ⟨z8, z9, zl⟩ := HC.out _ hz4
      refine hK _ _ ?_
      clear hK K
      refine wpAny_ready (rs := [11]) (by kernel_rfl) (by simp) ?_
      refine AllReady.cons rfl (fun K hK => ?_) ?_
      · go_simp
        refine hK _ _ ?_
        clear hK K
        refine wpAny_ready (rs := [12]) (by kernel_rfl) (by simp) ?_
        refine AllReady.cons rfl (fun K hK => ?_) ?_
        · go_simp
          refine (HB2.out _ hp4 hz4).2.mono ?_
          rintro e w5 ⟨vo5, vm5, vc5, rfl, hf5, hp5, hk5⟩
          have hl5 : Hid (∀ x ∈ f2, x.length ≤ 1000000) := (HB2.out _ hp4 hz4).1
          have hF5 : Hid (Fr w5 w2.heap.size f2 (.slice vo5 vm5 vc5)) := hf5.mono hle4
          have hF4 : Hid (Fr w5 w2.heap.size f1 (.slice vo4 vm4 vc4)) := Fr.kz (B := w2.heap.size) hf4 hk5 (by omega) (by omega)
          have hz5 := hz4.trans hk5
          refine hK _ _ ?_
          clear hK K
          refine wpAny_ready (rs := [13]) (by kernel_rfl) (by simp) ?_
          refine AllReady.cons rfl (fun K hK => ?_) ?_
          · go_simp
            refine hK _ _ ?_
            clear hK K
            refine wpAny_ready (rs := [14]) (by kernel_rfl) (by simp) ?_
            refine AllReady.cons rfl (fun K hK => ?_) ?_
            · go_simp
              refine (HBE.out _ _ _ _ _ _ _ _ hp5 hF4.out hF5.out hl4.out hl5.out).mono ?_
              rintro e w7 ⟨vo7, vm7, vc7, rfl, hf7, hp7, hk7⟩
              refine hK _ _ ?_
              clear hK K
              refine wpAny_ready (rs := [15]) (by kernel_rfl) (by simp) ?_
              refine AllReady.cons rfl (fun K hK => ?_) ?_
              · go_simp
                refine hK _ _ ?_
                clear hK K
                refine wpAny_done (by kernel_rfl) ?_ _
                go_wp2
                go_ret
                exact ⟨⟨_, rfl, hf7.mono (by have a1 := hz5.size; simp; omega)⟩, hp7, (hz5.trans (Kz.of bxS)).trans (Kz.of2 hk7)⟩
              exact AllReady.nil
            exact AllReady.nil
          exact AllReady.nil
        exact AllReady.nil
      exact AllReady.nil
    refine AllReady.cons rfl (fun K hK => ?_) ?_
    · go_simp
      refine hK _ _ ?_
      clear hK K
      refine wpAny_ready (rs := [6]) (by kernel_rfl) (by simp) ?_
      refine AllReady.cons rfl (fun K hK => ?_) ?_
      · go_simp
        have hul2 := hp2.u.lt
        refine (HB1.out _ (hp2.below belD) (hz2.trans (Kz.of belD))).2.mono ?_
        rintro e w4 ⟨vo4, vm4, vc4, rfl, hf4, hp4, hk4⟩
        have hl4 : Hid (∀ x ∈ f1, x.length ≤ 1000000) := (HB1.out _ (hp2.below belD) (hz2.trans (Kz.of belD))).1
        have hz4 := (hz2.trans (Kz.of belD)).trans hk4
        have hle4 : w2.heap.size ≤ w4.heap.size := hk4.size
        obtain ⟨z8, z9, zl⟩ := HC.out _ hz4
        refine hK _ _ ?_
        clear hK K
        refine wpAny_ready (rs := [12]) (by kernel_rfl) (by simp) ?_
        refine AllReady.cons rfl (fun K hK => ?_) ?_
        · go_simp
          refine (HB2.out _ hp4 hz4).2.mono ?_
          rintro e w5 ⟨vo5, vm5, vc5, rfl, hf5, hp5, hk5⟩
          have hl5 : Hid (∀ x ∈ f2, x.length ≤ 1000000) := (HB2.out _ hp4 hz4).1
          have hF5 : Hid (Fr w5 w2.heap.size f2 (.slice vo5 vm5 vc5)) := hf5.mono hle4
          have hF4 : Hid (Fr w5 w2.heap.size f1 (.slice vo4 vm4 vc4)) := Fr.kz (B := w2.heap.size) hf4 hk5 (by omega) (by omega)
          have hz5 := hz4.trans hk5
          refine hK _ _ ?_
          clear hK K
          refine wpAny_ready (rs := [13]) (by kernel_rfl) (by simp) ?_
          refine AllReady.cons rfl (fun K hK => ?_) ?_
          · go_simp
            refine hK _ _ ?_
            clear hK K
            refine wpAny_ready (rs := [14]) (by kernel_rfl) (by simp) ?_
            refine AllReady.cons rfl (fun K hK => ?_) ?_
            · go_simp
              refine (HBE.out _ _ _ _ _ _ _ _ hp5 hF4.out hF5.out hl4.out hl5.out).mono ?_
              rintro e w7 ⟨vo7, vm7, vc7, rfl, hf7, hp7, hk7⟩
              refine hK _ _ ?_
              clear hK K
              refine wpAny_ready (rs := [15]) (by kernel_rfl) (by simp) ?_
              refine AllReady.cons rfl (fun K hK => ?_) ?_
              · go_simp
                refine hK _ _ ?_
                clear hK K
                refine wpAny_done (by kernel_rfl) ?_ _
                go_wp2
                go_ret
                exact ⟨⟨_, rfl, hf7.mono (by have a1 := hz5.size; simp; omega)⟩, hp7, (hz5.trans (Kz.of bxS)).trans (Kz.of2 hk7)⟩
              exact AllReady.nil
            exact AllReady.nil
          exact AllReady.nil
        exact AllReady.nil
      exact AllReady.nil
    exact AllReady.nil
  refine AllReady.cons rfl (fun K hK => ?_) ?_
  · go_simp
    refine hK _ _ ?_
    clear hK K
    refine wpAny_ready (rs := [5]) (by kernel_rfl) (by simp) ?_
    refine AllReady.cons rfl (fun K hK => ?_) ?_
    · go_simp
      refine hK _ _ ?_
      clear hK K
      refine wpAny_ready (rs := [6]) (by kernel_rfl) (by simp) ?_
      refine AllReady.cons rfl (fun K hK => ?_) ?_
      · go_simp
        have hul2 := hp2.u.lt
        refine (HB1.out _ (hp2.below belD) (hz2.trans (Kz.of belD))).2.mono ?_
        rintro e w4 ⟨vo4, vm4, vc4, rfl, hf4, hp4, hk4⟩
        have hl4 : Hid (∀ x ∈ f1, x.length ≤ 1000000) := (HB1.out _ (hp2.below belD) (hz2.trans (Kz.of belD))).1
        have hz4 := (hz2.trans (Kz.of belD)).trans hk4
        have hle4 : w2.heap.size ≤ w4.heap.size := hk4.size
        obtain ⟨z8, z9, zl⟩ := HC.out _ hz4
        refine hK _ _ ?_
        clear hK K
        refine wpAny_ready (rs := [12]) (by kernel_rfl) (by simp) ?_
        refine AllReady.cons rfl (fun K hK => ?_) ?_
        · go_simp
          refine (HB2.out _ hp4 hz4).2.mono ?_
          rintro e w5 ⟨vo5, vm5, vc5, rfl, hf5, hp5, hk5⟩
          have hl5 : Hid (∀ x ∈ f2, x.length ≤ 1000000) := (HB2.out _ hp4 hz4).1
          have hF5 : Hid (Fr w5 w2.heap.size f2 (.slice vo5 vm5 vc5)) := hf5.mono hle4
          have hF4 : Hid (Fr w5 w2.heap.size f1 (.slice vo4 vm4 vc4)) := Fr.kz (B := w2.heap.size) hf4 hk5 (by omega) (by omega)
          have hz5 := hz4.trans hk5
          refine hK _ _ ?_
          clear hK K
          refine wpAny_ready (rs := [13]) (by kernel_rfl) (by simp) ?_
          refine AllReady.cons rfl (fun K hK => ?_) ?_
          · go_simp
            refine hK _ _ ?_
            clear hK K
            refine wpAny_ready (rs := [14]) (by kernel_rfl) (by simp) ?_
            refine AllReady.cons rfl (fun K hK => ?_) ?_
            · go_simp
              refine (HBE.out _ _ _ _ _ _ _ _ hp5 hF4.out hF5.out hl4.out hl5.out).mono ?_
              rintro e w7 ⟨vo7, vm7, vc7, rfl, hf7, hp7, hk7⟩
              refine hK _ _ ?_
              clear hK K
              refine wpAny_ready (rs := [15]) (by kernel_rfl) (by simp) ?_
              refine AllReady.cons rfl (fun K hK => ?_) ?_
              · go_simp
                refine hK _ _ ?_
                clear hK K
                refine wpAny_done (by kernel_rfl) ?_ _
                go_wp2
                go_ret
                exact ⟨⟨_, rfl, hf7.mono (by have a1 := hz5.size; simp; omega)⟩, hp7, (hz5.trans (Kz.of bxS)).trans (Kz.of2 hk7)⟩
              exact AllReady.nil
            exact AllReady.nil
          exact AllReady.nil
        exact AllReady.nil
      exact AllReady.nil
    exact AllReady.nil
  exact AllReady.nil
theorem zStmt {cb mb ab tb ub : Nat} {tg : Asc} {F : Nat} (IH0 : ∀ F', F' < F → ZsC cb mb ab tb ub tg F') : ZsC cb mb ab tb ub tg (F + 1) := by
  intro x g o vs so so' fr k k' n n' w hq h hX
  rcases zM_one hq with ⟨hk, ⟨nm, k1, h0, h1, hr, hst⟩ | ⟨k1, n1, bd, n2, el, f1, s1, k2, m2, s1', f2, s2, m3, s2', h0, hr, h8, h9, hb1, hb2, hm1, hy1, hm2, hy2, hbh⟩⟩
  · exact zStmtA hk h0 h1 hr hst h hX
  · exact zStmtB IH0 hk h0 hr h8 h9 hb1 hb2 hm1 hy1 hm2 hy2 hbh h hX
theorem zStmtC {cb mb ab tb ub : Nat} {tg : Asc} : ∀ F, ZsC cb mb ab tb ub tg F := by
  have H : ∀ F F', F' ≤ F → ZsC cb mb ab tb ub tg F' := by
    intro F
    induction F with
    | zero =>
      intro F' hF x g o vs so so' fr k k' n n' w h
      have : F' = 0 := by omega
      subst this
      rw [zM] at h; cases h
    | succ F ih =>
      intro F' hF
      cases F' with
      | zero => intro x g o vs so so' fr k k' n n' w h; rw [zM] at h; cases h
      | succ F' => exact zStmt fun F2 h2 => ih F2 (by omega)
  exact fun F => H F F (Nat.le_refl _)
end Go.Proofs.Ytpnhefjiobnelaa
