/- Layer 3 of the reference, over tokens without ticks: they stay as they are. -/
import Derived.Test.YthdhmlojihpfkaaGreatSL
import Derived.Test.YthdhmlojihpfkaaGreatSX
import Derived.Test.YthdhmlojihpfkaaGreatYP
namespace Go.Proofs.YthdhmlojihpfkaaGreat
open Go.RowKit Lg Go.Maps
set_option linter.unusedVariables false
set_option linter.unusedSimpArgs false

theorem RRl.below {b g n cap k : Nat} {vo : Value} {w w' : World} (h : RRl b g n cap k vo w) (hb : Below w.heap.size w w') : RRl b g n cap k vo w' := (hb.block b (heap_lt h)).trans h
theorem RRl.set1 {b g n cap k : Nat} {vo : Value} {w : World} (h : RRl b g n cap k vo w) (k' : Nat) : RRl b g n cap k' vo (w.setCell ⟨b, 1, none⟩ (.int .i64 k')) := by
  unfold RRl; simp only [World.setCell]; rw [Array.getElem?_modify, if_pos rfl, h]; rfl
def atR3 (b : Nat) (w : World) : Nat := match w.cell? ⟨b, 1, none⟩ with | some (.int _ k) => k.toNat | _ => 0
theorem atR3_eq {b g n cap k : Nat} {vo : Value} {w : World} (h : RRl b g n cap k vo w) : atR3 b w = k := by unfold atR3; rw [h.at_.2.1]; simp
theorem grw_below {b e z n : Nat} {v : Value} {xs : List Value} {w0 w w' : World} (h0 : Below w0.heap.size w0 w) (h : Grw b v w w') (hb : w0.heap.size ≤ b) (ho : w.ownsRow w0.heap.size e z v n xs) : Below w0.heap.size w0 w' :=
  ⟨h.os.trans h0.os, h.tape.trans h0.tape, h.output.trans h0.output, Nat.le_trans h0.size h.size, fun k hk => (h.block k (Nat.lt_of_lt_of_le hk h0.size) (by omega) (fun e => by have := (World.ownsRow.lt ho k e.symm).1; omega)).trans (h0.block k hk)⟩
/-- one more is kept -/
theorem take_more {body : List Tok} {i : Nat} {t : Tok} (h : body[i]? = some t) : body.take (i + 1) = body.take i ++ [t] := by
  rw [List.take_add_one, h]; rfl
theorem run_end {w wr W w5 : World} {o : Obj} {v : Value} {ao : Option Addr} {cp n pe : Nat} {body l : List Tok} (hB : Below w.heap.size w wr) (hg : W.grownBy w5 v.ownBlock) (hown : w5.ownsRow w.heap.size 33 3 (.slice ao (n + 1) cp) (n + 1) (tcells body ++ [.int .i64 6, .string ⟨#[]⟩, .int .i64 pe]))
    (hW : W.heap = wr.heap.push o) (hos : W.os = wr.os) (ht : W.tape = wr.tape) (hout : W.output = wr.output) (hn : body.length = n ∧ l = body ++ [⟨6, [], pe⟩]) (ho : wr.ownsRow w.heap.size 33 3 v n (tcells body)) (hl : n ≤ 16384) :
    ∃ g' cap', (Ending.returned (.tuple #[.slice ao (n + 1) cp, .slice none 0 0]) = .returned (.tuple #[.slice (some ⟨g', 0, none⟩) l.length cap', .slice none 0 0])) ∧ Tks g' cap' l w5 ∧ Below w.heap.size w w5 := by
  obtain ⟨hn1, rfl⟩ := hn
  obtain ⟨g', cap', he, h1, h2, ⟨h3, _⟩, h4⟩ := own_some hown (by omega)
  have hll : (body ++ [(⟨6, [], pe⟩ : Tok)]).length = n + 1 := by simp [hn1]
  refine ⟨g', cap', by rw [he, hll], ⟨h2, by rw [hll]; exact h3, by rw [hll]; omega, by rw [hll]; omega, ?_, fun j u hu => ?_⟩, ?_⟩
  · rw [hll, show n + 1 - 1 = body.length by omega]; unfold tk; simp
  · rw [tcells_app, tcells_one] at hu
    exact h4 j u hu
  · have hs : W.heap.size = wr.heap.size + 1 := by rw [hW]; simp
    have hz := hB.size
    exact ⟨hg.os.trans (hos.trans hB.os), hg.tape.trans (ht.trans hB.tape), hg.output.trans (hout.trans hB.output), by have := hg.size; omega, fun k hk => (hg.block k (by omega) (fun e => by have := (World.ownsRow.lt ho k e.symm).1; omega)).trans ((by rw [hW, Array.getElem?_push, if_neg (by omega)] : W.heap[k]? = wr.heap[k]?).trans (hB.block k hk))⟩
set_option maxRecDepth 100000 in
set_option maxHeartbeats 4000000 in
theorem rRun {g cap n pe : Nat} {l body : List Tok} {w : World} (h : Tks g cap l w) (hln : l = body ++ [⟨6, [], pe⟩]) (hbn : body.length = n) (hb : ∀ (i : Nat) (t : Tok), body[i]? = some t → t.k ≠ 4 ∧ t.k ≠ 5 ∧ t.k ≠ 6) (hn : n ≤ 16384) :
    Calls Tryz.prog 15 #[.slice (some ⟨g, 0, none⟩) l.length cap] w fun e w' => ∃ g' cap', e = .returned (.tuple #[.slice (some ⟨g', 0, none⟩) l.length cap', .slice none 0 0]) ∧ Tks g' cap' l w' ∧ Below w.heap.size w w' := by
  obtain ⟨i0, hi, hz0, hz1, hz2⟩ := infoTok
  have hgl := h.lt
  have HT : Hid _ := h
  have HBD : Hid _ := hb
  have HLN : Hid (n ≤ 16384) := hn
  have HBN : Hid _ := (⟨hbn, hln⟩ : body.length = n ∧ l = body ++ [⟨6, [], pe⟩])
  have hll : l.length = n + 1 := by rw [hln]; simp [hbn]
  have HLL : Hid _ := hll
  have hcap : n + 1 ≤ cap := by rw [← hll]; exact h.cap
  rw [show (.slice (some ⟨g, 0, none⟩) l.length cap : Value) = .slice (some ⟨g, 0, none⟩) (n + 1) cap by rw [hll]]
  clear h hb hln hbn hll
  go_enter Tryz.func15, Tryz.ntmps15
  go_wp2_with fail
  go_loopw [5] (fun _ wr => ∃ (i : Nat) (vo : Value), i ≤ n + 1 ∧ Hid (RRl w.heap.size g (n + 1) cap i vo wr) ∧ Hid (wr.ownsRow w.heap.size 33 3 vo (body.take i).length (tcells (body.take i))) ∧ Hid (Below w.heap.size w wr)) (fun _ wr => n + 1 - atR3 w.heap.size wr)
  case atStart => exact ⟨0, .slice none 0 0, Nat.zero_le _, heap_alloc_last _ _, by rw [List.take_zero]; exact World.ownsRow_nil _ _ _ _, bxS⟩
  case round =>
    obtain ⟨i, vo, hin, HR, HOW0, HB⟩ := hrel
    obtain ⟨c0, c1, c2, c3, c4, c5, c6, c7, cf, cl⟩ := HR.out.at_
    have HTR : Hid (Tks g cap l wr) := HT.out.below HB.out
    have hgr : g < wr.heap.size := HTR.out.lt
    have hne : g ≠ w.heap.size := by omega
    rcases Nat.lt_or_ge i n with hlt | hge
    · have hltI : (i : Int) < (n : Int) + 1 := by omega
      obtain ⟨⟨k, x, p⟩, hx⟩ : ∃ t, body[i]? = some t := ⟨_, List.getElem?_eq_getElem (by rw [HBN.out.1]; exact hlt)⟩
      have hx2 : l[i]? = some ⟨k, x, p⟩ := by rw [HBN.out.2, List.getElem?_append_left (by rw [HBN.out.1]; exact hlt)]; exact hx
      obtain ⟨t0, t1, t2⟩ := tcell_at hx2
      have d0 := HTR.out.src _ _ t0
      have d1 := HTR.out.src _ _ t1
      have d2 := HTR.out.src _ _ t2
      simp only at d0 d1 d2
      obtain ⟨k4, k5, k6⟩ := HBD.out i _ hx
      simp only at k4 k5 k6
      have e4 : (k == 4) = false := by simpa using k4
      have e5 : (k == 5) = false := by simpa using k5
      have e6 : (k == 6) = false := by simpa using k6
      obtain ⟨sx, hsx⟩ : ∃ sx, sx = S x := ⟨_, rfl⟩
      rw [← hsx] at d1
      have HSX : Hid _ := hsx
      have HX : Hid _ := hx
      have hkl : (body.take i).length < 16384 := by have := HLN.out; rw [List.length_take]; omega
      have HKL : Hid _ := hkl
      have HK4 : Hid _ := k4
      have hi64 : i ≤ 16384 := by have := HLN.out; omega
      clear t0 t1 t2 hx hx2 hsx k4 k5 k6 hkl
      have HKE := fun w' (hb : Below wr.heap.size wr w') => rKept (HR.out.below hb)
      have HDI := fun w' => rDirect k sx p HK4.out w'
      have HPU := fun w' (hb : Below wr.heap.size wr w') => rPuts w.heap.size w.heap.size g (n + 1) cap i vo (body.take i) k sx p w' (HR.out.below hb) (owns_keep hb HOW0.out) HKL.out (Nat.le_trans HB.out.size hb.size)
      go_wp2_with (first
        | (go_at_call 29; refine (HKE _ bxS).mono ?_; rintro e w2 ⟨rfl, hb2⟩; obtain ⟨r0, r1, r2, rf, rl⟩ := res_cells hb2)
        | (go_at_call 30; refine (HDI _).mono ?_; rintro e w3 ⟨rfl, hb3⟩; obtain ⟨s0, s1, s2, sf, sl⟩ := res_cells (bel hb2 hb3))
        | (go_at_call 33; refine (HPU _ (bel bxS (bel hb2 hb3))).mono ?_; rintro e w4 ⟨rfl, v', hr4, ho4, hg4⟩; obtain ⟨q0, q1, q2, q3, q4, q5, q6, q7, qf, ql⟩ := RRl.at_ hr4))
      go_roundw
      case rel =>
        have hb3w := bel bxS (bel hb2 hb3)
        refine ⟨i + 1, v', by omega, RRl.set1 hr4 (i + 1), ?_, ?_⟩
        · have e := HSX.out
          subst e
          rw [take_more HX.out]
          exact owns_set (own_new ho4) (own_ne ho4 hr4 (by decide))
        · exact (grw_below (bel HB.out hb3w) hg4 (Nat.le_refl _) (owns_keep hb3w HOW0.out)).setCell (Nat.le_refl _) _
      case measure =>
        have a1 := atR3_eq (RRl.set1 hr4 (i + 1))
        have a2 := atR3_eq HR.out
        rw [a2]
        refine Nat.lt_of_le_of_lt (Nat.le_of_eq (congrArg (n + 1 - ·) a1)) ?_
        omega
    · rcases Nat.eq_or_lt_of_le hge with he | hgt
      · subst he
        have hltI : (n : Int) < (n : Int) + 1 := by omega
        have hx2 : l[n]? = some ⟨6, [], pe⟩ := by rw [HBN.out.2, List.getElem?_append_right (by rw [HBN.out.1]; exact Nat.le_refl _), HBN.out.1]; simp
        obtain ⟨t0, t1, t2⟩ := tcell_at hx2
        have d0 := HTR.out.src _ _ t0
        have d1 := HTR.out.src _ _ t1
        have d2 := HTR.out.src _ _ t2
        simp only at d0 d1 d2
        replace d1 : wr.cell? ⟨g, n * 3 + 1, none⟩ = some (.string ⟨#[]⟩) := d1
        have hi64 : n ≤ 16384 := HLN.out
        clear t0 t1 t2 hx2
        go_wp2_with fail
        go_roundw
        case rel =>
          refine ⟨n + 1, vo, Nat.le_refl _, RRl.below (RRl.set1 HR.out (n + 1)) bxS, ?_, bel (HB.out.setCell (p := ⟨w.heap.size, 1, none⟩) (Nat.le_refl _) _) bxS⟩
          have e : body.take (n + 1) = body.take n := by rw [List.take_of_length_le (by rw [HBN.out.1]; omega), List.take_of_length_le (by rw [HBN.out.1]; exact Nat.le_refl _)]
          rw [e]
          exact owns_keep bxS (owns_set HOW0.out (own_ne HOW0.out HR.out (by decide)))
        case measure =>
          have a1 := atR3_eq (RRl.below (RRl.set1 HR.out (n + 1)) (bxS (o := .cells #[.int .i64 6, .string ⟨#[]⟩, .int .i64 pe] 33)))
          have a2 := atR3_eq HR.out
          rw [a2]
          refine Nat.lt_of_le_of_lt (Nat.le_of_eq (congrArg (n + 1 - ·) a1)) ?_
          omega
      · obtain rfl : i = n + 1 := by omega
        have hx2 : l[n]? = some ⟨6, [], pe⟩ := by rw [HBN.out.2, List.getElem?_append_right (by rw [HBN.out.1]; exact Nat.le_refl _), HBN.out.1]; simp
        obtain ⟨t0, t1, t2⟩ := tcell_at hx2
        have d2 := HTR.out.src _ _ t2
        simp only at d2
        have hi64 : n ≤ 16384 := HLN.out
        have HOW1 : Hid (wr.ownsRow w.heap.size 33 3 vo n (tcells body)) := by have := HOW0.out; rw [List.take_of_length_le (by rw [HBN.out.1]; omega), HBN.out.1] at this; exact this
        obtain ⟨ao, cp, hv⟩ := slice_of HOW1.out
        have HOW : Hid (wr.ownsRow w.heap.size 33 3 (.slice ao n cp) n (tcells body)) := by have := HOW1.out; rw [hv] at this; exact this
        rw [hv] at c4
        clear t0 t1 t2 hx2 hv
        have hbw := HB.out.size
        have hltI : (n : Int) < (n : Int) + 1 := by omega
        have hwn : IntKind.i64.wrap (n : Int) = (n : Int) := by rw [IntKind.wrap_i64]; omega
        go_wp2_with fail
        refine wp_region_any (by kernel_rfl) ?_
        try (change wpAny _ _ _ _ _ _ _ (World.drew _))
        refine wpAny_take (i := 0) (v := ?_) rfl (by kernel_rfl) (by kernel_rfl) (by kernel_rfl) (fun _ _ _ h => h) (Or.inl ⟨by kernel_rfl, ?_⟩) ?_
        rotate_left
        · intro w'; go_simp <;> with_reducible rfl
        try simp only [Act.put, List.setIfInBounds_toArray, List.set_cons_zero, List.set_cons_succ]
        refine wpAny_take (i := 1) (v := ?_) rfl (by kernel_rfl) (by kernel_rfl) (by kernel_rfl) (fun _ _ _ h => h) (Or.inl ⟨by kernel_rfl, ?_⟩) ?_
        rotate_left
        · intro w'; go_simp <;> with_reducible rfl
        try simp only [Act.put, List.setIfInBounds_toArray, List.set_cons_zero, List.set_cons_succ]
        refine wpAny_take (i := 2) (v := ?_) rfl (by kernel_rfl) (by kernel_rfl) (by kernel_rfl) (fun _ _ _ h => h) (Or.inl ⟨by kernel_rfl, ?_⟩) ?_
        rotate_left
        · intro w'; go_simp <;> with_reducible rfl
        try simp only [Act.put, List.setIfInBounds_toArray, List.set_cons_zero, List.set_cons_succ]
        refine wpAny_take (i := 4) (v := ?_) rfl (by kernel_rfl) (by kernel_rfl) (by kernel_rfl) (fun _ _ _ h => h) (Or.inl ⟨by kernel_rfl, ?_⟩) ?_
        rotate_left
        · intro w'; go_simp <;> with_reducible rfl
        try simp only [Act.put, List.setIfInBounds_toArray, List.set_cons_zero, List.set_cons_succ]
        refine wpAny_take (i := 5) (v := ?_) rfl (by kernel_rfl) (by kernel_rfl) (by kernel_rfl) (fun _ _ _ h => h) (Or.inl ⟨by kernel_rfl, ?_⟩) ?_
        rotate_left
        · intro w'; go_simp <;> with_reducible rfl
        try simp only [Act.put, List.setIfInBounds_toArray, List.set_cons_zero, List.set_cons_succ]
        refine wpAny_take (i := 6) (v := ?_) rfl (by kernel_rfl) (by kernel_rfl) (by kernel_rfl) (fun _ _ _ h => h) (Or.inl ⟨by kernel_rfl, ?_⟩) ?_
        rotate_left
        · intro w'; go_simp <;> with_reducible rfl
        try simp only [Act.put, List.setIfInBounds_toArray, List.set_cons_zero, List.set_cons_succ]
        refine wpAny_take (i := 7) (v := ?_) rfl (by kernel_rfl) (by kernel_rfl) (by kernel_rfl) (fun _ _ _ h => h) (Or.inl ⟨by kernel_rfl, ?_⟩) ?_
        rotate_left
        · intro w'; go_simp <;> with_reducible rfl
        try simp only [Act.put, List.setIfInBounds_toArray, List.set_cons_zero, List.set_cons_succ]
        refine wpAny_take (i := 8) (v := ?_) rfl (by kernel_rfl) (by kernel_rfl) (by kernel_rfl) (fun _ _ _ h => h) (Or.inl ⟨by kernel_rfl, ?_⟩) ?_
        rotate_left
        · intro w'; go_simp <;> with_reducible rfl
        try simp only [Act.put, List.setIfInBounds_toArray, List.set_cons_zero, List.set_cons_succ]
        refine wpAny_take (i := 9) (v := ?_) rfl (by kernel_rfl) (by kernel_rfl) (by kernel_rfl) (fun _ _ _ h => h) (Or.inl ⟨by kernel_rfl, ?_⟩) ?_
        rotate_left
        · intro w'; go_simp <;> with_reducible rfl
        try simp only [Act.put, List.setIfInBounds_toArray, List.set_cons_zero, List.set_cons_succ]
        refine wpAny_ready (rs := [3, 10]) (by kernel_rfl) (by simp) ?_
        refine AllReady.cons rfl (fun K hK => ?_) ?_
        · go_simp
          refine hK _ _ ?_
          clear hK K
          refine wpAny_ready (rs := [10]) (by kernel_rfl) (by simp) ?_
          refine AllReady.cons rfl (fun K hK => ?_) ?_
          · go_simp
            refine hK _ _ ?_
            clear hK K
            refine wpAny_take (i := 11) (v := ?_) rfl (by kernel_rfl) (by kernel_rfl) (by kernel_rfl) (fun _ _ _ h => h) (Or.inl ⟨by kernel_rfl, ?_⟩) ?_
            rotate_left
            · intro w'; go_simp <;> with_reducible rfl
            try simp only [Act.put, List.setIfInBounds_toArray, List.set_cons_zero, List.set_cons_succ]
            refine wpAny_ready (rs := [12]) (by kernel_rfl) (by simp) ?_
            refine AllReady.cons rfl (fun K hK => ?_) ?_
            · go_simp
              refine hK _ _ ?_
              clear hK K
              refine wpAny_ready (rs := [13]) (by kernel_rfl) (by simp) ?_
              refine AllReady.cons rfl (fun K hK => ?_) ?_
              · (refine step_append_own_at rfl _ _ 22 rfl w.heap.size 33 i0 _ 3 32 Tryz.underlying22 hi hz0 hz1 hz2 rfl (by decide) _ n (tcells body) (by simp [Act.eval, Act.put]) (World.ownsRow.alloc (World.ownsRow.drew HOW.out) _) ⟨wr.heap.size, 0, none⟩ 1 1 [.int .i64 6, .string ⟨#[]⟩, .int .i64 pe] (by simp [Act.eval, Act.put]) rfl (new3e _ _ rfl _ _ _ _) (one3 _ _ _) (by simp [maxLen]; omega) (by omega) (by simp; omega) ?_; intro v' w5 hown5 hgrow5 hloc; obtain ⟨ao2, cap3, rfl⟩ := slice_of hown5)
                try go_simp
                refine hK _ _ ?_
                clear hK K
                try simp only [Act.put, List.setIfInBounds_toArray, List.set_cons_zero, List.set_cons_succ]
                refine wpAny_ready (rs := [14]) (by kernel_rfl) (by simp) ?_
                refine AllReady.cons rfl (fun K hK => ?_) ?_
                · go_simp
                  refine hK _ _ ?_
                  clear hK K
                  refine wpAny_ready (rs := [15]) (by kernel_rfl) (by simp) ?_
                  refine AllReady.cons rfl (fun K hK => ?_) ?_
                  · go_simp
                    refine hK _ _ ?_
                    clear hK K
                    refine wpAny_done (by kernel_rfl) ?_ _
                    go_wp2_with fail
                    go_ret2
                    exact run_end HB.out hgrow5 hown5 rfl rfl rfl rfl HBN.out HOW.out HLN.out
                  exact AllReady.nil
                exact AllReady.nil
              exact AllReady.nil
            exact AllReady.nil
          exact AllReady.nil
        refine AllReady.cons rfl (fun K hK => ?_) ?_
        · go_simp
          refine hK _ _ ?_
          clear hK K
          refine wpAny_take (i := 11) (v := ?_) rfl (by kernel_rfl) (by kernel_rfl) (by kernel_rfl) (fun _ _ _ h => h) (Or.inl ⟨by kernel_rfl, ?_⟩) ?_
          rotate_left
          · intro w'; go_simp <;> with_reducible rfl
          try simp only [Act.put, List.setIfInBounds_toArray, List.set_cons_zero, List.set_cons_succ]
          refine wpAny_ready (rs := [3, 12]) (by kernel_rfl) (by simp) ?_
          refine AllReady.cons rfl (fun K hK => ?_) ?_
          · go_simp
            refine hK _ _ ?_
            clear hK K
            refine wpAny_ready (rs := [12]) (by kernel_rfl) (by simp) ?_
            refine AllReady.cons rfl (fun K hK => ?_) ?_
            · go_simp
              refine hK _ _ ?_
              clear hK K
              refine wpAny_ready (rs := [13]) (by kernel_rfl) (by simp) ?_
              refine AllReady.cons rfl (fun K hK => ?_) ?_
              · (refine step_append_own_at rfl _ _ 22 rfl w.heap.size 33 i0 _ 3 32 Tryz.underlying22 hi hz0 hz1 hz2 rfl (by decide) _ n (tcells body) (by simp [Act.eval, Act.put]) (World.ownsRow.alloc (World.ownsRow.drew HOW.out) _) ⟨wr.heap.size, 0, none⟩ 1 1 [.int .i64 6, .string ⟨#[]⟩, .int .i64 pe] (by simp [Act.eval, Act.put]) rfl (new3e _ _ rfl _ _ _ _) (one3 _ _ _) (by simp [maxLen]; omega) (by omega) (by simp; omega) ?_; intro v' w5 hown5 hgrow5 hloc; obtain ⟨ao2, cap3, rfl⟩ := slice_of hown5)
                try go_simp
                refine hK _ _ ?_
                clear hK K
                try simp only [Act.put, List.setIfInBounds_toArray, List.set_cons_zero, List.set_cons_succ]
                refine wpAny_ready (rs := [14]) (by kernel_rfl) (by simp) ?_
                refine AllReady.cons rfl (fun K hK => ?_) ?_
                · go_simp
                  refine hK _ _ ?_
                  clear hK K
                  refine wpAny_ready (rs := [15]) (by kernel_rfl) (by simp) ?_
                  refine AllReady.cons rfl (fun K hK => ?_) ?_
                  · go_simp
                    refine hK _ _ ?_
                    clear hK K
                    refine wpAny_done (by kernel_rfl) ?_ _
                    go_wp2_with fail
                    go_ret2
                    exact run_end HB.out hgrow5 hown5 rfl rfl rfl rfl HBN.out HOW.out HLN.out
                  exact AllReady.nil
                exact AllReady.nil
              exact AllReady.nil
            exact AllReady.nil
          refine AllReady.cons rfl (fun K hK => ?_) ?_
          · go_simp
            refine hK _ _ ?_
            clear hK K
            refine wpAny_ready (rs := [3]) (by kernel_rfl) (by simp) ?_
            refine AllReady.cons rfl (fun K hK => ?_) ?_
            · go_simp
              refine hK _ _ ?_
              clear hK K
              refine wpAny_ready (rs := [13]) (by kernel_rfl) (by simp) ?_
              refine AllReady.cons rfl (fun K hK => ?_) ?_
              · (refine step_append_own_at rfl _ _ 22 rfl w.heap.size 33 i0 _ 3 32 Tryz.underlying22 hi hz0 hz1 hz2 rfl (by decide) _ n (tcells body) (by simp [Act.eval, Act.put]) (World.ownsRow.alloc (World.ownsRow.drew HOW.out) _) ⟨wr.heap.size, 0, none⟩ 1 1 [.int .i64 6, .string ⟨#[]⟩, .int .i64 pe] (by simp [Act.eval, Act.put]) rfl (new3e _ _ rfl _ _ _ _) (one3 _ _ _) (by simp [maxLen]; omega) (by omega) (by simp; omega) ?_; intro v' w5 hown5 hgrow5 hloc; obtain ⟨ao2, cap3, rfl⟩ := slice_of hown5)
                try go_simp
                refine hK _ _ ?_
                clear hK K
                try simp only [Act.put, List.setIfInBounds_toArray, List.set_cons_zero, List.set_cons_succ]
                refine wpAny_ready (rs := [14]) (by kernel_rfl) (by simp) ?_
                refine AllReady.cons rfl (fun K hK => ?_) ?_
                · go_simp
                  refine hK _ _ ?_
                  clear hK K
                  refine wpAny_ready (rs := [15]) (by kernel_rfl) (by simp) ?_
                  refine AllReady.cons rfl (fun K hK => ?_) ?_
                  · go_simp
                    refine hK _ _ ?_
                    clear hK K
                    refine wpAny_done (by kernel_rfl) ?_ _
                    go_wp2_with fail
                    go_ret2
                    exact run_end HB.out hgrow5 hown5 rfl rfl rfl rfl HBN.out HOW.out HLN.out
                  exact AllReady.nil
                exact AllReady.nil
              exact AllReady.nil
            exact AllReady.nil
          exact AllReady.nil
        exact AllReady.nil
end Go.Proofs.YthdhmlojihpfkaaGreat
