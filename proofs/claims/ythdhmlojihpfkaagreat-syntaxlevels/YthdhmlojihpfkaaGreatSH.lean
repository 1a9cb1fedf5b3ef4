/- Layer 4 of the program: signs between two parts. -/
import Derived.Test.YthdhmlojihpfkaaGreatSG
import Derived.Deep.RegionLaw
namespace Go.Proofs.YthdhmlojihpfkaaGreat
open Go.RowKit Lg
set_option linter.unusedVariables false
set_option linter.unusedSimpArgs false

/-- where the parser stands -/
def atP (b : Nat) (w : World) : Nat := match w.cell? ⟨b, 1, none⟩ with | some (.int _ k) => k.toNat | _ => 0
theorem atP_eq {b g cap k : Nat} {l : List Tok} {w : World} (h : St b g cap l k w) : atP b w = k := by unfold atP; rw [h.at_.2.1]; simp
/-- a tree's blocks: from the call on, but not where its first part lies -/
def No (B Xb : Nat) : Nat → Prop := fun g => B ≤ g ∧ g ≠ Xb
theorem pQ_le {l : List Tok} : ∀ (f : Nat) (md : Md) (k : Nat) (x : X) (k' : Nat), pQ l f md k = some (x, k') → k ≤ k' := by
  intro f
  induction f with
  | zero => intro md k x k' h; rw [pQ] at h; cases h
  | succ f ih =>
    intro md k x k' h
    cases md with
    | ex d => exact ih _ _ _ _ (pQ_ex h).1
    | bi d s => obtain ⟨y, k1, h1, h2⟩ := pQ_bi h; exact Nat.le_trans (ih _ _ _ _ h1) (ih _ _ _ _ h2)
    | bl d s z =>
      rcases pQ_bl h with ⟨_, _, h1⟩ | ⟨_, _, y, k1, h1, h2⟩
      · omega
      · have a := ih _ _ _ _ h1; have b := ih _ _ _ _ h2; omega
    | un d =>
      rcases pQ_un h with ⟨_, h1⟩ | ⟨_, _, y, h1, _⟩
      · exact ih _ _ _ _ h1
      · have := ih _ _ _ _ h1; omega
    | pr d => obtain ⟨_, _, _, _, h1⟩ := pQ_pr h; omega
    | ct d p a => rw [pQ] at h; cases h
theorem cells6 {w : World} {R : Nat} {a b c d e f : Value} {t : TypeId} (h : w.heap[R]? = some (.cells #[a, b, c, d, e, f] t (0, 0))) :
    w.cell? ⟨R, 0, none⟩ = some a ∧ w.cell? ⟨R, 1, none⟩ = some b ∧ w.cell? ⟨R, 2, none⟩ = some c ∧ w.cell? ⟨R, 3, none⟩ = some d ∧ w.cell? ⟨R, 4, none⟩ = some e ∧ w.cell? ⟨R, 5, none⟩ = some f ∧ (∀ j, w.frozen? ⟨R, j, none⟩ = false) ∧ R < w.heap.size := by
  refine ⟨?_, ?_, ?_, ?_, ?_, ?_, fun j => Lib.frozen_of_heap h j, heap_lt h⟩ <;> (rw [Lib.cell_of_heap h]; rfl)
theorem six_at {w : World} {R : Nat} {a b c d e f v0 v1 v2 v3 v4 v5 : Value} {t : TypeId} (h : w.heap[R]? = some (.cells #[a, b, c, d, e, f] t (0, 0))) (o : Obj) : ((six w R v0 v1 v2 v3 v4 v5).alloc o).heap[R]? = some (.cells #[v0, v1, v2, v3, v4, v5] t (0, 0)) := by
  have hl := heap_lt h
  have e0 := six_size w R v0 v1 v2 v3 v4 v5
  show ((six w R v0 v1 v2 v3 v4 v5).heap.push _)[R]? = _
  rw [Array.getElem?_push, if_neg (by omega)]
  unfold six World.setCell
  simp only [Array.getElem?_modify, if_true, h, Option.map_some]
  rfl
set_option maxRecDepth 100000 in
set_option maxHeartbeats 4000000 in
theorem biW {b g cap : Nat} {l : List Tok} {F : Nat} (HU0 : ∀ f, f ≤ F → UnC b g cap l f) (HB0 : ∀ f, f ≤ F → BiC b g cap l f) : BiC b g cap l (F + 1) := by
  intro d s k x k' hq hf hs w h
  obtain ⟨y0, k1, hq1, hq2⟩ := pQ_bi hq
  have HU := HU0 F (Nat.le_refl _) d k y0 k1 hq1 (by omega)
  have HBB : Hid _ := HB0
  have HT : Hid _ := h
  have HQ2 : Hid _ := hq2
  unfold ExO at HU ⊢
  obtain ⟨yo, yn, yv, yp, yk, yp2⟩ := y0
  simp only at HU ⊢
  obtain ⟨sn, hsn⟩ : ∃ sn, sn = S yn := ⟨_, rfl⟩
  obtain ⟨sv, hsv⟩ : ∃ sv, sv = S yv := ⟨_, rfl⟩
  have HN : Hid (sn = S yn ∧ sv = S yv) := ⟨hsn, hsv⟩
  rw [← hsn, ← hsv] at HU
  clear hsn hsv hq hq1 hq2 HU0 HB0
  have hbl := h.blt
  have HU2 := fun w' (hb : Below w.heap.size w w') => HU w' (h.below hb)
  clear h
  go_enter Tryz.func97, Tryz.ntmps97
  go_wp2_with (first
    | (go_at_call 108; refine (HU2 _ bxS).mono ?_; rintro e w1 ⟨⟨ao, vn, cp, rfl, hv⟩, hs1, hk1⟩))
  have hXb : w.heap.size + 1 ≤ w1.heap.size := by have := hk1.size; simpa using this
  obtain ⟨Xb, hXe⟩ : ∃ Xb, Xb = w1.heap.size := ⟨_, rfl⟩
  rw [← hXe] at hXb ⊢
  have HX0 : Hid (Xb = w1.heap.size) := hXe
  clear hXe
  go_loopw [8] (fun _ wr => ∃ (f' : Nat) (z : X) (kz : Nat) (a2 : Option Addr) (n2 c2 : Nat) (t1 t2 : ByteArray), f' ≤ F ∧ Hid (pQ l f' (.bl d s z) kz = some (x, k')) ∧ Hid (t1 = S z.nm ∧ t2 = S z.vl) ∧ Hid (wr.heap[Xb]? = some (.cells #[.int .i64 z.op, .string t1, .string t2, .bool z.pl, .slice a2 n2 c2, .int .i64 z.p] 47 (0, 0))) ∧ Hid (KAt wr (No (w.heap.size + 1) Xb) z.kids (.slice a2 n2 c2)) ∧ Hid (St b g cap l kz wr) ∧ Hid (Kp b (w.alloc (.cells #[.int .i64 0, .string ⟨#[]⟩, .string ⟨#[]⟩, .bool false, .slice none 0 0, .int .i64 0] 47)) wr)) (fun _ wr => l.length - atP b wr)
  case atStart =>
    refine ⟨F, _, k1, ao, vn, cp, sn, sv, Nat.le_refl _, HQ2, HN, ?_, ?_, hs1.below bxS, hk1.trans (Kp.of bxS)⟩
    · rw [HX0.out]; show (w1.heap.push _)[w1.heap.size]? = _; simp
    · exact (hv.mono (N' := No (w.heap.size + 1) Xb) fun g' h1 h2 => ⟨by unfold Ge at h2; simp at h2; omega, by have := HX0.out; omega⟩).keep Up.alloc
  case round =>
    obtain ⟨f', ⟨zo, zn, zv, zp, zk, zp2⟩, kz, a2, n2, c2, t1, t2, hf', HQ, HTT, HXB, HKA, HST, HKP⟩ := hrel
    simp only at HTT HXB HKA
    obtain ⟨x0, x1, x2, x3, x4, x5, xf, xl⟩ := cells6 HXB.out
    obtain ⟨q0, q1, q2, q3, q4, q5, qf, ql⟩ := res6 HKP.out hbl rfl
    have HH := fun w' (hb : Below wr.heap.size wr w') => pHere (HST.out.below hb)
    have HF := fun w' => fixed_c (tk l kz) w'
    rw [show fixL (tk l kz) = fx l kz from rfl] at HF
    have HBO := fun w' => binaryOp_c (S (fx l kz)) w'
    rw [L_S] at HBO
    have hnb : ¬ No (w.heap.size + 1) Xb b := by unfold No; omega
    have hnR : ¬ No (w.heap.size + 1) Xb w.heap.size := by unfold No; omega
    have hnX : ¬ No (w.heap.size + 1) Xb Xb := by unfold No; omega
    obtain ⟨o, hoo⟩ : ∃ o, o = (biL (fx l kz)).1 := ⟨_, rfl⟩
    obtain ⟨t, htt⟩ : ∃ t, t = (biL (fx l kz)).2 := ⟨_, rfl⟩
    have ht9 : t ≤ 9 := by rw [htt]; exact (biL_le _).1
    have hb1 := hXb
    obtain ⟨ys, hys⟩ : ∃ ys, ys = S (fx l kz) := ⟨_, rfl⟩
    rw [← hys] at HF HBO
    rw [← hoo, ← htt] at HBO
    cases f' with
    | zero => have := HQ.out; rw [pQ] at this; cases this
    | succ f' =>
      rcases pQ_bl HQ.out with ⟨hc, hz, hkz⟩ | ⟨ho, hts, y, k2, hy, hnext⟩
      · rw [← hoo, ← htt] at hc
        subst hkz
        have HZ : Hid _ := hz
        obtain ⟨tv, htv⟩ : ∃ tv, tv = tkV (tk l k') := ⟨_, rfl⟩
        rw [← htv] at HH HF
        have hcc : (o == 0) = true ∨ ((o == 0) = false ∧ (t : Int) < (s : Int)) := by
          by_cases h0 : o = 0
          · left; simpa using h0
          · right
            refine ⟨by simpa using h0, ?_⟩
            rcases hc with hc | hc
            · exact absurd hc h0
            · omega
        clear hc hz htv hoo htt hys
        rcases hcc with hcc | ⟨hcc, hcc2⟩
        all_goals
          go_wp2_with (first
            | (go_at_call 53; refine (HH _ (Below.refl _ _)).mono ?_; rintro e wA ⟨rfl, hbA⟩)
            | (go_at_call 87; refine (HF _).mono ?_; rintro e wB ⟨rfl, hbB⟩)
            | (go_at_call 109; refine (HBO _).mono ?_; rintro e wC ⟨rfl, hw⟩; have hw2 := hw.symm; subst hw2; have hW := bel hbA hbB; obtain ⟨i0, i1, i2, i3, i4, i5, xf', xl'⟩ := cells6 ((hW.block Xb xl).trans HXB.out); obtain ⟨j0, j1, j2, j3, j4, j5, jf, jl⟩ := res6 (HKP.out.trans (Kp.of hW)) hbl rfl))
          refine bodyPost_ret (v := .agg #[.int .i64 zo, .string t1, .string t2, .bool zp, .slice a2 n2 c2, .int .i64 zp2]) (by simp [results, Tryz.results97, go_sem, j0, j1, j2, j3, j4, j5, jf, jl]) rfl ?_
          have hg := HT.out.lt
          rw [HZ.out]
          obtain ⟨e1, e2⟩ := HTT.out
          simp only
          rw [← e1, ← e2]
          exact ⟨⟨_, _, _, rfl, ((HKA.out.keep (Up.of (Kp.of hW) hnb)).keep (Up.six hnR)).mono fun g' _ hg' => by unfold Ge; unfold No at hg'; omega⟩, (HST.out.below hW).six (by omega) (by omega), (((Kp.of bxS).trans HKP.out).trans (Kp.of hW)).six (Nat.le_refl _)⟩
      · rw [← hoo] at ho
        rw [← htt] at hts hy
        have ho2 : (o == 0) = false := by simpa using ho
        have hts2 : (s : Int) ≤ (t : Int) := by omega
        have HS4 := fun w' (hb : Below wr.heap.size wr w') => pStep (HST.out.below hb) (HST.out.nextX rfl (biL_ne (by rw [← hoo]; exact ho)))
        have HBi := HBB.out f' (by omega) d (t + 1) (kz + 1) y k2 hy (by omega) (by omega)
        have HNX : Hid _ := hnext
        have HLE : Hid _ := pQ_le _ _ _ _ _ hy
        unfold ExO at HBi
        obtain ⟨⟨kk, tx, p⟩, ht2⟩ : ∃ t, t = tk l kz := ⟨_, rfl⟩
        rw [← ht2] at HH HF HS4
        unfold tkV at HH HF HS4
        simp only at HH HF HS4
        obtain ⟨sx, hsx⟩ : ∃ sx, sx = S tx := ⟨_, rfl⟩
        rw [← hsx] at HH HF HS4
        obtain ⟨yo', yn', yv', yp', yk', yp2'⟩ := y
        simp only at HBi
        obtain ⟨sn', hsn'⟩ : ∃ sn, sn = S yn' := ⟨_, rfl⟩
        obtain ⟨sv', hsv'⟩ : ∃ sv, sv = S yv' := ⟨_, rfl⟩
        have HN' : Hid (sn' = S yn' ∧ sv' = S yv') := ⟨hsn', hsv'⟩
        rw [← hsn', ← hsv'] at HBi
        replace HBi : ∀ w', St b g cap l (kz + 1) w' → Calls Tryz.prog 97 #[.pointer (some ⟨b, 0, none⟩), .int .i64 d, .int .i64 ((t : Int) + 1)] w' fun e w'_1 => (∃ ao n cp, e = .returned (.agg #[.int .i64 yo', .string sn', .string sv', .bool yp', .slice ao n cp, .int .i64 yp2']) ∧ KAt w'_1 (Ge w'.heap.size) yk' (.slice ao n cp)) ∧ St b g cap l k2 w'_1 ∧ Kp b w' w'_1 := HBi
        have HEQ : Hid (o = (biL (fx l kz)).1 ∧ p = (tk l kz).p) := ⟨hoo, by rw [← ht2]⟩
        have hf2 := fld2
        have hwt : IntKind.i64.wrap ((t : Int) + 1) = (t : Int) + 1 := by rw [IntKind.wrap_i64]; omega
        clear ho hts hy hnext ht2 hsx hsn' hsv' hys hoo htt
        go_wp2_with (first
          | (go_at_call 53; refine (HH _ (Below.refl _ _)).mono ?_; rintro e wA ⟨rfl, hbA⟩)
          | (go_at_call 87; refine (HF _).mono ?_; rintro e wB ⟨rfl, hbB⟩)
          | (go_at_call 109; refine (HBO _).mono ?_; rintro e wC ⟨rfl, hw⟩; have hw2 := hw.symm; subst hw2; have hW := bel hbA hbB)
          | (go_at_call 85; refine (HS4 _ hW).mono ?_; rintro e w4 ⟨rfl, hs4, hk4⟩; have hK4 := (Kp.of (b := b) hW).trans hk4; obtain ⟨i0, i1, i2, i3, i4, i5, xf', xl'⟩ := cells6 ((hK4.block Xb xl (by omega)).trans HXB.out)))
        refine wp_region_any (by kernel_rfl) ?_
        try (change wpAny _ _ _ _ _ _ _ (World.drew _))
        refine wpAny_take (i := 0) (v := ?_) rfl (by kernel_rfl) (by kernel_rfl) (by kernel_rfl) (fun _ _ _ h => h) (Or.inl ⟨by kernel_rfl, ?_⟩) ?_
        rotate_left
        · intro w'; go_simp <;> with_reducible rfl
        try simp only [Act.put, List.setIfInBounds_toArray, List.set_cons_zero, List.set_cons_succ]
        refine wpAny_take (i := 2) (v := ?_) rfl (by kernel_rfl) (by kernel_rfl) (by kernel_rfl) (fun _ _ _ h => h) (Or.inl ⟨by kernel_rfl, ?_⟩) ?_
        rotate_left
        · intro w'; go_simp <;> with_reducible rfl
        try simp only [Act.put, List.setIfInBounds_toArray, List.set_cons_zero, List.set_cons_succ]
        refine wpAny_take (i := 3) (v := ?_) rfl (by kernel_rfl) (by kernel_rfl) (by kernel_rfl) (fun _ _ _ h => h) (Or.inl ⟨by kernel_rfl, ?_⟩) ?_
        rotate_left
        · intro w'; go_simp <;> with_reducible rfl
        try simp only [Act.put, List.setIfInBounds_toArray, List.set_cons_zero, List.set_cons_succ]
        refine wpAny_take (i := 4) (v := ?_) rfl (by kernel_rfl) (by kernel_rfl) (by kernel_rfl) (fun _ _ _ h => h) (Or.inl ⟨by kernel_rfl, ?_⟩) ?_
        rotate_left
        · intro w'; go_simp <;> with_reducible rfl
        try simp only [Act.put, List.setIfInBounds_toArray, List.set_cons_zero, List.set_cons_succ]
        refine wpAny_take (i := 5) (v := ?_) rfl (by kernel_rfl) (by kernel_rfl) (by kernel_rfl) (fun _ _ _ h => h) (Or.inl ⟨by kernel_rfl, ?_⟩) ?_
        rotate_left
        · intro w'; go_simp <;> with_reducible rfl
        try simp only [Act.put, List.setIfInBounds_toArray, List.set_cons_zero, List.set_cons_succ]
        refine wpAny_take (i := 8) (v := ?_) rfl (by kernel_rfl) (by kernel_rfl) (by kernel_rfl) (fun _ _ _ h => h) (Or.inl ⟨by kernel_rfl, ?_⟩) ?_
        rotate_left
        · intro w'; go_simp <;> with_reducible rfl
        try simp only [Act.put, List.setIfInBounds_toArray, List.set_cons_zero, List.set_cons_succ]
        refine wpAny_ready (rs := [1, 6]) (by kernel_rfl) (by simp) ?_
        refine AllReady.cons rfl (fun K hK => ?_) ?_
        · go_simp
          refine hK _ _ ?_
          clear hK K
          refine wpAny_ready (rs := [6]) (by kernel_rfl) (by simp) ?_
          refine AllReady.cons rfl (fun K hK => ?_) ?_
          · go_simp
            refine (HBi _ (hs4.below belD)).mono ?_
            rintro e w5 ⟨⟨a5, n5, c5, rfl, hv5⟩, hs5, hk5⟩
            have hK5 := hK4.trans ((Kp.of (b := b) belD).trans hk5)
            obtain ⟨m0, m1, m2, m3, m4, m5, mf, ml⟩ := cells6 ((hK5.block Xb xl (by omega)).trans HXB.out)
            refine hK _ _ ?_
            clear hK K
            refine wpAny_ready (rs := [7]) (by kernel_rfl) (by simp) ?_
            refine AllReady.cons rfl (fun K hK => ?_) ?_
            · go_simp
              refine hK _ _ ?_
              clear hK K
              refine wpAny_take (i := 9) (v := ?_) rfl (by kernel_rfl) (by kernel_rfl) (by kernel_rfl) (fun _ _ _ h => h) (Or.inl ⟨by kernel_rfl, ?_⟩) ?_
              rotate_left
              · intro w'; go_simp <;> with_reducible rfl
              try simp only [Act.put, List.setIfInBounds_toArray, List.set_cons_zero, List.set_cons_succ]
              refine wpAny_ready (rs := [10]) (by kernel_rfl) (by simp) ?_
              refine AllReady.cons rfl (fun K hK => ?_) ?_
              · go_simp
                refine hK _ _ ?_
                clear hK K
                refine wpAny_done (by kernel_rfl) ?_ _
                have hst := (hs5.six (R := Xb) (v0 := .int .i64 o) (v1 := .string ⟨#[]⟩) (v2 := .string ⟨#[]⟩) (v3 := .bool false) (v4 := .slice (some ⟨w5.heap.size, 0, none⟩) 2 2) (v5 := .int .i64 p) (by omega) (by have := HT.out.lt; omega)).below (bxS (o := .cells #[.int .i64 zo, .string t1, .string t2, .bool zp, .slice a2 n2 c2, .int .i64 zp2, .int .i64 yo', .string sn', .string sv', .bool yp', .slice a5 n5 c5, .int .i64 yp2'] 47))
                have HST2 : Hid _ := hst
                clear hst
                go_wp2_with fail
                go_roundw
                case rel =>
                  have hz5 := hk5.size
                  have hz4 : w4.drew.heap.size = w4.heap.size := rfl
                  have hw0 : (w.alloc (.cells #[.int .i64 0, .string ⟨#[]⟩, .string ⟨#[]⟩, .bool false, .slice none 0 0, .int .i64 0] 47)).heap.size = w.heap.size + 1 := by simp
                  refine ⟨f', ⟨o, [], [], false, (⟨zo, zn, zv, zp, zk, zp2⟩ : X).f ((⟨yo', yn', yv', yp', yk', yp2'⟩ : X).f .nil), p⟩, k2, some ⟨w5.heap.size, 0, none⟩, 2, 2, ⟨#[]⟩, ⟨#[]⟩, by omega, ?_, ⟨rfl, rfl⟩, ?_, ?_, HST2.out, ?_⟩
                  · have := HNX.out
                    rw [← HEQ.out.1, ← HEQ.out.2] at this
                    exact this
                  · exact six_at ((hK5.block Xb xl (by omega)).trans HXB.out) _
                  · obtain ⟨e1, e2⟩ := HTT.out
                    obtain ⟨e3, e4⟩ := HN'.out
                    subst e1 e2 e3 e4
                    exact KAt.twoS (x := ⟨zo, zn, zv, zp, zk, zp2⟩) (y := ⟨yo', yn', yv', yp', yk', yp2'⟩) (HKA.out.keep (Up.of hK5 hnb)) (hv5.mono fun g' _ hg' => by unfold Ge at hg'; unfold No; omega) hnX (by unfold No; omega) 47
                  · exact ((HKP.out.trans hK5).six (by omega)).alloc
                case measure =>
                  have a1 := atP_eq HST2.out
                  have a2 := atP_eq HST.out
                  have a3 := HLE.out
                  have a4 := hs5.k
                  rw [a1, a2]
                  omega
              exact AllReady.nil
            exact AllReady.nil
          exact AllReady.nil
        refine AllReady.cons rfl (fun K hK => ?_) ?_
        · go_simp
          refine (HBi _ (hs4.below belD)).mono ?_
          rintro e w5 ⟨⟨a5, n5, c5, rfl, hv5⟩, hs5, hk5⟩
          have hK5 := hK4.trans ((Kp.of (b := b) belD).trans hk5)
          obtain ⟨m0, m1, m2, m3, m4, m5, mf, ml⟩ := cells6 ((hK5.block Xb xl (by omega)).trans HXB.out)
          refine hK _ _ ?_
          clear hK K
          refine wpAny_ready (rs := [1]) (by kernel_rfl) (by simp) ?_
          refine AllReady.cons rfl (fun K hK => ?_) ?_
          · go_simp
            refine hK _ _ ?_
            clear hK K
            refine wpAny_ready (rs := [7]) (by kernel_rfl) (by simp) ?_
            refine AllReady.cons rfl (fun K hK => ?_) ?_
            · go_simp
              refine hK _ _ ?_
              clear hK K
              refine wpAny_take (i := 9) (v := ?_) rfl (by kernel_rfl) (by kernel_rfl) (by kernel_rfl) (fun _ _ _ h => h) (Or.inl ⟨by kernel_rfl, ?_⟩) ?_
              rotate_left
              · intro w'; go_simp <;> with_reducible rfl
              try simp only [Act.put, List.setIfInBounds_toArray, List.set_cons_zero, List.set_cons_succ]
              refine wpAny_ready (rs := [10]) (by kernel_rfl) (by simp) ?_
              refine AllReady.cons rfl (fun K hK => ?_) ?_
              · go_simp
                refine hK _ _ ?_
                clear hK K
                refine wpAny_done (by kernel_rfl) ?_ _
                have hst := (hs5.six (R := Xb) (v0 := .int .i64 o) (v1 := .string ⟨#[]⟩) (v2 := .string ⟨#[]⟩) (v3 := .bool false) (v4 := .slice (some ⟨w5.heap.size, 0, none⟩) 2 2) (v5 := .int .i64 p) (by omega) (by have := HT.out.lt; omega)).below (bxS (o := .cells #[.int .i64 zo, .string t1, .string t2, .bool zp, .slice a2 n2 c2, .int .i64 zp2, .int .i64 yo', .string sn', .string sv', .bool yp', .slice a5 n5 c5, .int .i64 yp2'] 47))
                have HST2 : Hid _ := hst
                clear hst
                go_wp2_with fail
                go_roundw
                case rel =>
                  have hz5 := hk5.size
                  have hz4 : w4.drew.heap.size = w4.heap.size := rfl
                  have hw0 : (w.alloc (.cells #[.int .i64 0, .string ⟨#[]⟩, .string ⟨#[]⟩, .bool false, .slice none 0 0, .int .i64 0] 47)).heap.size = w.heap.size + 1 := by simp
                  refine ⟨f', ⟨o, [], [], false, (⟨zo, zn, zv, zp, zk, zp2⟩ : X).f ((⟨yo', yn', yv', yp', yk', yp2'⟩ : X).f .nil), p⟩, k2, some ⟨w5.heap.size, 0, none⟩, 2, 2, ⟨#[]⟩, ⟨#[]⟩, by omega, ?_, ⟨rfl, rfl⟩, ?_, ?_, HST2.out, ?_⟩
                  · have := HNX.out
                    rw [← HEQ.out.1, ← HEQ.out.2] at this
                    exact this
                  · exact six_at ((hK5.block Xb xl (by omega)).trans HXB.out) _
                  · obtain ⟨e1, e2⟩ := HTT.out
                    obtain ⟨e3, e4⟩ := HN'.out
                    subst e1 e2 e3 e4
                    exact KAt.twoS (x := ⟨zo, zn, zv, zp, zk, zp2⟩) (y := ⟨yo', yn', yv', yp', yk', yp2'⟩) (HKA.out.keep (Up.of hK5 hnb)) (hv5.mono fun g' _ hg' => by unfold Ge at hg'; unfold No; omega) hnX (by unfold No; omega) 47
                  · exact ((HKP.out.trans hK5).six (by omega)).alloc
                case measure =>
                  have a1 := atP_eq HST2.out
                  have a2 := atP_eq HST.out
                  have a3 := HLE.out
                  have a4 := hs5.k
                  rw [a1, a2]
                  omega
              exact AllReady.nil
            exact AllReady.nil
          exact AllReady.nil
        exact AllReady.nil
end Go.Proofs.YthdhmlojihpfkaaGreat
