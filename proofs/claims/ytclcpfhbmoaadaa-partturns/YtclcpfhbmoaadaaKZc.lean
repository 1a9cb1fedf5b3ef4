/- The shared book's Made. -/
import Derived.Test.YtclcpfhbmoaadaaGKi
namespace Go.Proofs.Ytclcpfhbmoaadaa
open Go.RowKit Lg Nl Go.Maps
set_option linter.unusedVariables false
set_option linter.unusedSimpArgs false

set_option maxRecDepth 100000 in
set_option maxHeartbeats 0 in
theorem kMade_c (vG : Value) (m : Nat) (F : Nat → Nat → Int) (w : World) (hG : GsAt w w.heap.size vG m F) (hm : m ≤ 17592186044416) :
    Calls Try.prog 8 #[vG] w fun e w' => ∃ l nets vN vT, e = .returned (.agg #[vN, vT, .int .i64 ((nets : List Int).length : Nat)]) ∧ Hid (NdsAt w' vN l) ∧ Hid (IntsAt w' vT nets) ∧ Hid (Mk l) ∧ Hid (l.length ≤ 122 ∧ nets.length ≤ 6) ∧ Hid (mayN l nets nets.length = true) ∧ Below w.heap.size w w' := by
  obtain ⟨ga, gc, rfl, hG'⟩ := id hG
  have hs0 : (⟨#[]⟩ : ByteArray) = S [] := rfl
  have HA1 : Hid (Calls Try.prog 15 #[.pointer (some ⟨w.heap.size + 1, 0, none⟩), .agg #[.int .i64 2, .int .i64 0, .int .i64 1, .slice none 0 0, .string (S []), .int .i64 0, .int .i64 0, .int .i64 0]] ((w.alloc (.cells #[.slice none 0 0, .slice none 0 0, .int .i64 0] 26)).alloc (.cells #[.slice none 0 0, .slice none 0 0, .int .i64 0] 51)) fun e w' => e = .returned (.int .i64 0) ∧ ∃ vN', Hid (LsW (w.heap.size + 1) (w.heap.size + 1) [nInW 1] vN' (.slice none 0 0) ⟨0, []⟩ w') ∧ Hid (Bx (w.heap.size + 1) (w.heap.size + 1) (.slice none 0 0) vN' ((w.alloc (.cells #[.slice none 0 0, .slice none 0 0, .int .i64 0] 26)).alloc (.cells #[.slice none 0 0, .slice none 0 0, .int .i64 0] 51)) w')) :=
    kAdds_c _ _ [] _ _ ⟨0, []⟩ _ (nInW 1) none 0 0 (LsW.start w _) ⟨none, 0, rfl, Nat.le_refl _, Or.inl rfl⟩ (by simp)
  have HA2 : Hid (∀ W vN, LsW (w.heap.size + 1) (w.heap.size + 1) [nInW 1] vN (.slice none 0 0) ⟨0, []⟩ W → Calls Try.prog 15 #[.pointer (some ⟨w.heap.size + 1, 0, none⟩), .agg #[.int .i64 2, .int .i64 0, .int .i64 3, .slice none 0 0, .string (S []), .int .i64 0, .int .i64 0, .int .i64 0]] W fun e w' => e = .returned (.int .i64 1) ∧ ∃ vN', Hid (LsW (w.heap.size + 1) (w.heap.size + 1) [nInW 1, nInW 3] vN' (.slice none 0 0) ⟨0, []⟩ w') ∧ Hid (Bx (w.heap.size + 1) (w.heap.size + 1) vN vN' W w')) := fun W vN h =>
    kAdds_c _ _ [nInW 1] vN _ ⟨0, []⟩ W (nInW 3) none 0 0 h ⟨none, 0, rfl, Nat.le_refl _, Or.inl rfl⟩ (by simp)
  have HG : Hid (GsAt w w.heap.size (.slice ga m gc) m F) := hG
  clear hG hG'
  go_enter Try.func8, Try.ntmps8
  go_wp2_with (first
    | (go_at_call 15; have hx := h1a; refine (HA2.out _ _ H1L.out).mono ?_; rintro e w2 ⟨rfl, v2, H2L, H2B⟩; obtain ⟨q0, q1, q2⟩ := cells3n H2L.out.blk; have lb2 := hLt H2L.out.blk; have qf := fun j => Lib.frozen_of_heap H2L.out.blk j)
    | (go_at_call 15; refine HA1.out.mono ?_; rintro e w1 ⟨rfl, v1, H1L, H1B⟩; have h1a := True.intro))
  have HM0 := Md.start H2L.out (((Below.refl _ _).alloc (by simp) _).trans (H1B.out.bel.trans H2B.out.bel))
  replace HM0 : Hid _ := HM0
  clear q0 q1 q2 qf lb2 hx h1a H1L H1B H2L H2B HA1 HA2
  generalize w2.heap.size = gT at HM0 ⊢
  go_loopw [4] (fun s4 W => ∃ (i : Nat) (l : List Nd) (vN : Value), i ≤ m ∧ i ≤ 40 ∧ s4 = .int .i64 i ∧ Hid (Md w i l vN (.slice (some ⟨gT, 0, none⟩) 2 2) W)) (fun s4 W => 40 - (intOf s4).toNat)
  case atStart => exact ⟨0, _, _, Nat.zero_le _, by omega, rfl, HM0.out⟩
  case round =>
    clear HM0
    obtain ⟨i, l, vN, him, hi4, rfl, HM⟩ := hrel
    by_cases hlt : i < m ∧ i < 40
    · obtain ⟨h1, h2⟩ := hlt
      obtain ⟨na, nc, rfl⟩ := HM.out.ls.slice_
      obtain ⟨n, hn⟩ : ∃ n, n = l.length := ⟨_, rfl⟩
      have hn2 : 2 ≤ n := by rw [hn]; exact HM.out.m.two
      have hn3 : n ≤ 122 := by have := HM.out.len; omega
      rw [← hn] at HM
      have HNL : Hid (n = l.length) := hn
      have hbw : Below w.heap.size w wr := (belA (Below.refl _ _) _).trans (HM.out.bel.mono (by omega))
      obtain ⟨gg, o, rfl, hgl, hgs⟩ : ∃ gg o, ga = some ⟨gg, o, none⟩ ∧ gg < w.heap.size ∧ ∀ j q, j < m → q < 5 → wr.cell? ⟨gg, o + j * 5 + q, none⟩ = some (.int .i64 (F j q)) := by
        obtain ⟨ao, cap', hv, hh⟩ := HG.out.below hbw
        injection hv with e1 e2 e3
        subst e1
        rcases hh with hh | ⟨g, o, rfl, hg, _, hh⟩
        · omega
        · exact ⟨g, o, rfl, hg, hh⟩
      have f0 : wr.cell? ⟨gg, o + i * 5, none⟩ = some (.int .i64 (F i 0)) := hgs i 0 h1 (by omega)
      have f1 := hgs i 1 h1 (by omega)
      have f2 := hgs i 2 h1 (by omega)
      have f3 := hgs i 3 h1 (by omega)
      have f4 := hgs i 4 h1 (by omega)
      have lg := Nat.lt_of_lt_of_le hgl hbw.size
      obtain ⟨q0, q1, q2⟩ := cells3n HM.out.ls.blk
      have lb := hLt HM.out.ls.blk
      generalize F i 0 = z0 at f0
      generalize F i 1 = z1 at f1
      generalize F i 2 = z2 at f2
      generalize F i 3 = z3 at f3
      generalize F i 4 = z4 at f4
      obtain ⟨a, ha⟩ : ∃ a : Nat, z1 % 65536 % (n : Int) = (a : Int) := ⟨(z1 % 65536 % (n : Int)).toNat, by have := Int.emod_nonneg (z1 % 65536) (b := (n : Int)) (by omega); omega⟩
      obtain ⟨bb, hb⟩ : ∃ bb : Nat, z2 % 65536 % (n : Int) = (bb : Int) := ⟨(z2 % 65536 % (n : Int)).toNat, by have := Int.emod_nonneg (z2 % 65536) (b := (n : Int)) (by omega); omega⟩
      obtain ⟨c, hc⟩ : ∃ c : Nat, z3 % 65536 % (n : Int) = (c : Int) := ⟨(z3 % 65536 % (n : Int)).toNat, by have := Int.emod_nonneg (z3 % 65536) (b := (n : Int)) (by omega); omega⟩
      have han : a < n := by have := Int.emod_lt_of_pos (z1 % 65536) (b := (n : Int)) (by omega); omega
      have hbn : bb < n := by have := Int.emod_lt_of_pos (z2 % 65536) (b := (n : Int)) (by omega); omega
      have hcn : c < n := by have := Int.emod_lt_of_pos (z3 % 65536) (b := (n : Int)) (by omega); omega
      have n0 : ((n : Int) == 0) = false := by simp; omega
      have n1 : (1 : Int) ≤ (n : Int) := by omega
      have i1 : (0 : Int) ≤ (i : Int) := by omega
      have i2 : (i : Int) < (m : Int) := by omega
      have i3 : (i : Int) < 40 := by omega
      have rF := andFF
      have r3 := and3
      clear hgs hn
      go_wp2_with fail
      go_quiet (fail)
      rw [ha, hb, hc]
      have HR : Hid (Rd w wr.heap.size z0 z1 z2 z3 z4 l (.slice na n nc) (.slice (some ⟨gT, 0, none⟩) 2 2) ((wr.alloc (.cells #[.int .i64 z0, .int .i64 z1, .int .i64 z2, .int .i64 z3, .int .i64 z4] 54)).drewN nq)) := Rd.of HM.out
      have HLi : Hid (n ≤ 2 + 3 * i) := by show n ≤ 2 + 3 * i; rw [HNL.out]; exact HM.out.len
      have hXb : wr.heap.size ≠ w.heap.size + 1 := by omega
      generalize (wr.alloc (.cells #[.int .i64 z0, .int .i64 z1, .int .i64 z2, .int .i64 z3, .int .i64 z4] 54)).drewN nq = W1 at HR ⊢
      clear ha hb hc f0 f1 f2 f3 f4 q0 q1 q2 lb lg hbw HM
      generalize wr.heap.size = X at HR hXb ⊢
      obtain ⟨q0, q1, q2⟩ := cells3n HR.out.ls.blk
      obtain ⟨x0, x1, x2, x3, x4⟩ := cells5 HR.out.xb
      have lb := hLt HR.out.ls.blk
      have lX := hLt HR.out.xb
      have hal : a < l.length := by rw [← HNL.out]; exact han
      have hbl : bb < l.length := by rw [← HNL.out]; exact hbn
      have hcl : c < l.length := by rw [← HNL.out]; exact hcn
      have hl3 : l.length ≤ 122 := by rw [← HNL.out]; exact hn3
      obtain ⟨wd, hwd⟩ : ∃ wd : Nat, 1 + z4 % 4 = (wd : Int) := ⟨(1 + z4 % 4).toNat, by omega⟩
      have wd1 : 1 ≤ wd := by omega
      have wd4 : wd ≤ 4 := by omega
      have wi1 : (1 : Int) ≤ (wd : Int) := by omega
      have wi2 : (wd : Int) ≤ 256 := by omega
      rcases (by omega : z0 % 65536 % 9 = 0 ∨ (z0 % 65536 % 9 = 1 ∨ z0 % 65536 % 9 = 2) ∨ z0 % 65536 % 9 = 3 ∨ z0 % 65536 % 9 = 4 ∨ z0 % 65536 % 9 = 5 ∨ z0 % 65536 % 9 = 6 ∨ z0 % 65536 % 9 = 7 ∨ z0 % 65536 % 9 = 8) with hz | hz | hz | hz | hz | hz | hz | hz
      · skip
        as_aux_lemma =>
          go_wp2_with (first
            | (go_at_call 16; refine (kVector_c _ wd _ wd1 (by omega)).mono ?_; rintro e w5 ⟨⟨v, rfl, HVl, HVb⟩, hb5⟩)
            | (go_at_call 15; refine (rAdd ⟨1, 0, wd, [], v, 0, 0, 0⟩ none 0 0 HR.out hb5 ⟨none, 0, rfl, Nat.le_refl _, Or.inl rfl⟩ (Nk.cst wi1 wi2 HVb (by rw [HVl])) (by omega)).mono ?_; rintro e wZ ⟨⟨kZ, rfl⟩, vZ, HRZ⟩))
          go_roundw
          case rel => exact ⟨i + 1, _, _, by omega, by omega, by go_num, HRZ.out.md (by rw [List.length_append, ← HNL.out]; have := HLi.out; simp; omega)⟩
          case measure => simp [intOf]; omega
      · skip
        obtain ⟨op, hop⟩ : ∃ op : Int, 13 + z3 % 65536 % 14 = op := ⟨_, rfl⟩
        have o1 : 13 ≤ op := by omega
        have o2 : op ≤ 26 := by omega
        rcases hz with hz | hz
        all_goals as_aux_lemma =>
          go_wp2_with (first
            | (go_at_call 17; have hx := lX5; refine (rFit bb (wd : Int) HR5.out (Nat.lt_of_lt_of_le hbl HF5.out.ge) (by have := HF5.out.len; omega) wi1 wi2).mono ?_; rintro e w6 ⟨p6, l6, v6, rfl, HF6, HR6⟩; have y := cells5 HR6.out.xb; obtain ⟨y0, y1, y2, y3, y4⟩ := y; have lX6 := hLt HR6.out.xb; have c := cells3n HR6.out.ls.blk; obtain ⟨c0, c1, c2⟩ := c; have lb6 := hLt HR6.out.ls.blk; have sl := HR6.out.ls.slice_; obtain ⟨na6, nc6, rfl⟩ := sl)
            | (go_at_call 17; refine (rFit a (wd : Int) HR.out hal (by omega) wi1 wi2).mono ?_; rintro e w5 ⟨p5, l5, v5, rfl, HF5, HR5⟩; have y := cells5 HR5.out.xb; obtain ⟨y0, y1, y2, y3, y4⟩ := y; have lX5 := hLt HR5.out.xb; have c := cells3n HR5.out.ls.blk; obtain ⟨c0, c1, c2⟩ := c; have lb5 := hLt HR5.out.ls.blk; have sl := HR5.out.ls.slice_; obtain ⟨na5, nc5, rfl⟩ := sl)
            | (go_at_call 18; refine (kBinary_c _ _ _).mono ?_; rintro e w7 ⟨rfl, rfl⟩)
            | (go_at_call 15; refine (rAdd ⟨3, op, binW op wd, [(p5 : Int), (p6 : Int)], [], 0, 0, 0⟩ (some ⟨_, 0, none⟩) 2 2 HR6.out (belA (Below.refl _ _) _) (two_new HR6.out.ls _ _) (Nk.bin (Nat.lt_of_lt_of_le HF5.out.lt HF6.out.ge) HF6.out.lt ((HF6.out.old p5 HF5.out.lt).trans HF5.out.w) HF6.out.w wi1 wi2 o1 o2) (by have := HF5.out.len; have := HF6.out.len; omega)).mono ?_; rintro e wZ ⟨⟨kZ, rfl⟩, vZ, HRZ⟩))
          go_roundw
          case rel => exact ⟨i + 1, _, _, by omega, by omega, by go_num, HRZ.out.md (by rw [List.length_append]; have := HLi.out; have := HF5.out.len; have := HF6.out.len; have := HNL.out; simp; omega)⟩
          case measure => simp [intOf]; omega
      · skip
        obtain ⟨gN, oN, capN, hgN⟩ := HR.out.ls.nds.some_ (by omega)
        injection hgN with eN1 eN2 eN3
        subst eN1
        obtain ⟨glN, ga⟩ := HR.out.ls.nds.wd a hal
        rw [← wdAt_eq hal] at ga
        have a1 : (0 : Int) ≤ (a : Int) := by omega
        have a2 : (a : Int) < (n : Int) := by omega
        obtain ⟨wa1, wa2⟩ := HR.out.m.wd hal
        obtain ⟨wA, hwA⟩ : ∃ wA, wA = wdAt l (a : Int) := ⟨_, rfl⟩
        rw [← hwA] at ga wa1 wa2
        have HWA : Hid (wA = wdAt l (a : Int)) := hwA
        clear hwA eN2 eN3
        obtain ⟨op, hop⟩ : ∃ op : Int, 7 + z3 % 65536 % 6 = op := ⟨_, rfl⟩
        have o1 : 7 ≤ op := by omega
        have o2 : op ≤ 12 := by omega
        have hP : ((op != 7) = false ∧ op = 7) ∨ ((op != 7) = true ∧ (op != 9) = false ∧ op = 9) ∨ ((op != 7) = true ∧ (op != 9) = true ∧ op ≠ 7 ∧ op ≠ 9) := by rcases (by omega : op = 7 ∨ op = 9 ∨ (op ≠ 7 ∧ op ≠ 9)) with h | h | ⟨h, h'⟩; exact Or.inl ⟨by simp [h], h⟩; exact Or.inr (Or.inl ⟨by simp [h], by simp [h], h⟩); exact Or.inr (Or.inr ⟨by simpa using h, by simpa using h', h, h'⟩)
        rcases hP with ⟨g1, e⟩ | ⟨g1, g2, e⟩ | ⟨g1, g2, e, e'⟩
        · as_aux_lemma =>
            have HE : Hid (op = 7 ∨ op = 9) := by show op = 7 ∨ op = 9; omega
            clear e
            go_wp2_with (first
              | (go_at_call 15; refine (rAdd ⟨3, op, wA, [(a : Int)], [], 0, 0, 0⟩ (some ⟨_, 0, none⟩) 1 1 HR.out (belA (Below.refl _ _) _) (one_new HR.out.ls _) (Nk.una hal o1 o2 (Or.inl ⟨HE.out, HWA.out⟩) ⟨by omega, by omega⟩) (by omega)).mono ?_; rintro e wZ ⟨⟨kZ, rfl⟩, vZ, HRZ⟩))
            go_roundw
            case rel => exact ⟨i + 1, _, _, by omega, by omega, by go_num, HRZ.out.md (by rw [List.length_append]; have := HLi.out; have := HNL.out; simp; omega)⟩
            case measure => simp [intOf]; omega
        · as_aux_lemma =>
            have HE : Hid (op = 7 ∨ op = 9) := by show op = 7 ∨ op = 9; omega
            clear e
            go_wp2_with (first
              | (go_at_call 15; refine (rAdd ⟨3, op, wA, [(a : Int)], [], 0, 0, 0⟩ (some ⟨_, 0, none⟩) 1 1 HR.out (belA (Below.refl _ _) _) (one_new HR.out.ls _) (Nk.una hal o1 o2 (Or.inl ⟨HE.out, HWA.out⟩) ⟨by omega, by omega⟩) (by omega)).mono ?_; rintro e wZ ⟨⟨kZ, rfl⟩, vZ, HRZ⟩))
            go_roundw
            case rel => exact ⟨i + 1, _, _, by omega, by omega, by go_num, HRZ.out.md (by rw [List.length_append]; have := HLi.out; have := HNL.out; simp; omega)⟩
            case measure => simp [intOf]; omega
        · as_aux_lemma =>
            have HE : Hid (¬ (op = 7 ∨ op = 9)) := by show ¬ (op = 7 ∨ op = 9); omega
            clear e e'
            go_wp2_with (first
              | (go_at_call 15; refine (rAdd ⟨3, op, 1, [(a : Int)], [], 0, 0, 0⟩ (some ⟨_, 0, none⟩) 1 1 HR.out (belA (Below.refl _ _) _) (one_new HR.out.ls _) (Nk.una hal o1 o2 (Or.inr ⟨HE.out, rfl⟩) ⟨by omega, by omega⟩) (by omega)).mono ?_; rintro e wZ ⟨⟨kZ, rfl⟩, vZ, HRZ⟩))
            go_roundw
            case rel => exact ⟨i + 1, _, _, by omega, by omega, by go_num, HRZ.out.md (by rw [List.length_append]; have := HLi.out; have := HNL.out; simp; omega)⟩
            case measure => simp [intOf]; omega
      · skip
        rcases hb8 : (bits BinOp.and IntKind.i64 z4 8 == 0) with _ | _
        · as_aux_lemma =>
          go_wp2_with (first
            | (go_at_call 17; have hx := lX5; refine (rFit bb (wd : Int) HR5.out (Nat.lt_of_lt_of_le hbl HF5.out.ge) (by have := HF5.out.len; omega) wi1 wi2).mono ?_; rintro e w6 ⟨p6, l6, v6, rfl, HF6, HR6⟩; have y := cells5 HR6.out.xb; obtain ⟨y0, y1, y2, y3, y4⟩ := y; have lX6 := hLt HR6.out.xb; have c := cells3n HR6.out.ls.blk; obtain ⟨c0, c1, c2⟩ := c; have lb6 := hLt HR6.out.ls.blk; have sl := HR6.out.ls.slice_; obtain ⟨na6, nc6, rfl⟩ := sl)
            | (go_at_call 17; refine (rFit a (wd : Int) HR.out hal (by omega) wi1 wi2).mono ?_; rintro e w5 ⟨p5, l5, v5, rfl, HF5, HR5⟩; have y := cells5 HR5.out.xb; obtain ⟨y0, y1, y2, y3, y4⟩ := y; have lX5 := hLt HR5.out.xb; have c := cells3n HR5.out.ls.blk; obtain ⟨c0, c1, c2⟩ := c; have lb5 := hLt HR5.out.ls.blk; have sl := HR5.out.ls.slice_; obtain ⟨na5, nc5, rfl⟩ := sl)
            | (go_at_call 15; refine (rAdd ⟨3, 6, wd, [(c : Int), (p5 : Int), (p6 : Int)], [], 0, 0, 0⟩ (some ⟨_, 0, none⟩) 3 3 HR6.out (belA (Below.refl _ _) _) (three_new HR6.out.ls _ _ _) (Nk.cnd (Nat.lt_of_lt_of_le hcl (Nat.le_trans HF5.out.ge HF6.out.ge)) (Nat.lt_of_lt_of_le HF5.out.lt HF6.out.ge) HF6.out.lt ((HF6.out.old p5 HF5.out.lt).trans HF5.out.w) HF6.out.w wi1 wi2) (by have := HF5.out.len; have := HF6.out.len; omega)).mono ?_; rintro e wZ ⟨⟨kZ, rfl⟩, vZ, HRZ⟩))
          go_roundw
          case rel => exact ⟨i + 1, _, _, by omega, by omega, by go_num, HRZ.out.md (by rw [List.length_append]; have := HLi.out; have := HF5.out.len; have := HF6.out.len; have := HNL.out; simp; omega)⟩
          case measure => simp [intOf]; omega
        · as_aux_lemma =>
          go_wp2_with (first
            | (go_at_call 17; have hx := lX5; refine (rFit bb (wd : Int) HR5.out (Nat.lt_of_lt_of_le hbl HF5.out.ge) (by have := HF5.out.len; omega) wi1 wi2).mono ?_; rintro e w6 ⟨p6, l6, v6, rfl, HF6, HR6⟩; have y := cells5 HR6.out.xb; obtain ⟨y0, y1, y2, y3, y4⟩ := y; have lX6 := hLt HR6.out.xb; have c := cells3n HR6.out.ls.blk; obtain ⟨c0, c1, c2⟩ := c; have lb6 := hLt HR6.out.ls.blk; have sl := HR6.out.ls.slice_; obtain ⟨na6, nc6, rfl⟩ := sl)
            | (go_at_call 17; refine (rFit a (wd : Int) HR.out hal (by omega) wi1 wi2).mono ?_; rintro e w5 ⟨p5, l5, v5, rfl, HF5, HR5⟩; have y := cells5 HR5.out.xb; obtain ⟨y0, y1, y2, y3, y4⟩ := y; have lX5 := hLt HR5.out.xb; have c := cells3n HR5.out.ls.blk; obtain ⟨c0, c1, c2⟩ := c; have lb5 := hLt HR5.out.ls.blk; have sl := HR5.out.ls.slice_; obtain ⟨na5, nc5, rfl⟩ := sl)
            | (go_at_call 15; refine (rAdd ⟨4, 0, wd, [(c : Int), (p5 : Int), (p6 : Int)], [], 0, 0, 0⟩ (some ⟨_, 0, none⟩) 3 3 HR6.out (belA (Below.refl _ _) _) (three_new HR6.out.ls _ _ _) (Nk.cho (Nat.lt_of_lt_of_le hcl (Nat.le_trans HF5.out.ge HF6.out.ge)) (Nat.lt_of_lt_of_le HF5.out.lt HF6.out.ge) HF6.out.lt ((HF6.out.old p5 HF5.out.lt).trans HF5.out.w) HF6.out.w wi1 wi2) (by have := HF5.out.len; have := HF6.out.len; omega)).mono ?_; rintro e wZ ⟨⟨kZ, rfl⟩, vZ, HRZ⟩))
          go_roundw
          case rel => exact ⟨i + 1, _, _, by omega, by omega, by go_num, HRZ.out.md (by rw [List.length_append]; have := HLi.out; have := HF5.out.len; have := HF6.out.len; have := HNL.out; simp; omega)⟩
          case measure => simp [intOf]; omega
      · skip
        as_aux_lemma =>
          go_wp2_with (first
            | (go_at_call 17; have hx := lX5; refine (rFit bb (wd : Int) HR5.out (Nat.lt_of_lt_of_le hbl HF5.out.ge) (by have := HF5.out.len; omega) wi1 wi2).mono ?_; rintro e w6 ⟨p6, l6, v6, rfl, HF6, HR6⟩; have y := cells5 HR6.out.xb; obtain ⟨y0, y1, y2, y3, y4⟩ := y; have lX6 := hLt HR6.out.xb; have c := cells3n HR6.out.ls.blk; obtain ⟨c0, c1, c2⟩ := c; have lb6 := hLt HR6.out.ls.blk; have sl := HR6.out.ls.slice_; obtain ⟨na6, nc6, rfl⟩ := sl)
            | (go_at_call 17; refine (rFit a (wd : Int) HR.out hal (by omega) wi1 wi2).mono ?_; rintro e w5 ⟨p5, l5, v5, rfl, HF5, HR5⟩; have y := cells5 HR5.out.xb; obtain ⟨y0, y1, y2, y3, y4⟩ := y; have lX5 := hLt HR5.out.xb; have c := cells3n HR5.out.ls.blk; obtain ⟨c0, c1, c2⟩ := c; have lb5 := hLt HR5.out.ls.blk; have sl := HR5.out.ls.slice_; obtain ⟨na5, nc5, rfl⟩ := sl)
            | (go_at_call 15; refine (rAdd ⟨5, 0, 1, [(p5 : Int), (p6 : Int)], [], 0, 0, 0⟩ (some ⟨_, 0, none⟩) 2 2 HR6.out (belA (Below.refl _ _) _) (two_new HR6.out.ls _ _) (Nk.sam (Nat.lt_of_lt_of_le HF5.out.lt HF6.out.ge) HF6.out.lt ((HF6.out.old p5 HF5.out.lt).trans HF5.out.w) HF6.out.w) (by have := HF5.out.len; have := HF6.out.len; omega)).mono ?_; rintro e wZ ⟨⟨kZ, rfl⟩, vZ, HRZ⟩))
          go_roundw
          case rel => exact ⟨i + 1, _, _, by omega, by omega, by go_num, HRZ.out.md (by rw [List.length_append]; have := HLi.out; have := HF5.out.len; have := HF6.out.len; have := HNL.out; simp; omega)⟩
          case measure => simp [intOf]; omega
      · skip
        as_aux_lemma =>
          go_wp2_with (first
            | (go_at_call 17; refine (rFit a (wd : Int) HR.out hal (by omega) wi1 wi2).mono ?_; rintro e w5 ⟨p5, l5, v5, rfl, HF5, HR5⟩; have y := cells5 HR5.out.xb; obtain ⟨y0, y1, y2, y3, y4⟩ := y; have lX5 := hLt HR5.out.xb; have c := cells3n HR5.out.ls.blk; obtain ⟨c0, c1, c2⟩ := c; have lb5 := hLt HR5.out.ls.blk; have sl := HR5.out.ls.slice_; obtain ⟨na5, nc5, rfl⟩ := sl))
          refine wp_region_any (by kernel_rfl) ?_
          try (change wpAny _ _ _ _ _ _ _ (World.drew _))
          refine wpAny_take (i := 0) (oi := ⟨some 237, _, _, _, _, _⟩) (v := ?_) rfl (by kernel_rfl) (by kernel_rfl) (by kernel_rfl) (fun _ _ _ h => h) (Or.inl ⟨by kernel_rfl, ?_⟩) ?_
          rotate_left
          · intro w'; go_simp <;> with_reducible rfl
          try simp only [Act.put, List.setIfInBounds_toArray, List.set_cons_zero, List.set_cons_succ]
          refine wpAny_take (i := 1) (oi := ⟨some 238, _, _, _, _, _⟩) (v := ?_) rfl (by kernel_rfl) (by kernel_rfl) (by kernel_rfl) (fun _ _ _ h => h) (Or.inl ⟨by kernel_rfl, ?_⟩) ?_
          rotate_left
          · intro w'; go_simp <;> with_reducible rfl
          try simp only [Act.put, List.setIfInBounds_toArray, List.set_cons_zero, List.set_cons_succ]
          refine wpAny_take (i := 2) (oi := ⟨some 239, _, _, _, _, _⟩) (v := ?_) rfl (by kernel_rfl) (by kernel_rfl) (by kernel_rfl) (fun _ _ _ h => h) (Or.inl ⟨by kernel_rfl, ?_⟩) ?_
          rotate_left
          · intro w'; go_simp <;> with_reducible rfl
          try simp only [Act.put, List.setIfInBounds_toArray, List.set_cons_zero, List.set_cons_succ]
          refine wpAny_take (i := 3) (oi := ⟨some 240, _, _, _, _, _⟩) (v := ?_) rfl (by kernel_rfl) (by kernel_rfl) (by kernel_rfl) (fun _ _ _ h => h) (Or.inl ⟨by kernel_rfl, ?_⟩) ?_
          rotate_left
          · intro w'; go_simp <;> with_reducible rfl
          try simp only [Act.put, List.setIfInBounds_toArray, List.set_cons_zero, List.set_cons_succ]
          refine wpAny_take (i := 4) (oi := ⟨some 241, _, _, _, _, _⟩) (v := ?_) rfl (by kernel_rfl) (by kernel_rfl) (by kernel_rfl) (fun _ _ _ h => h) (Or.inl ⟨by kernel_rfl, ?_⟩) ?_
          rotate_left
          · intro w'; go_simp <;> with_reducible rfl
          try simp only [Act.put, List.setIfInBounds_toArray, List.set_cons_zero, List.set_cons_succ]
          refine wpAny_take (i := 6) (oi := ⟨some 243, _, _, _, _, _⟩) (v := ?_) rfl (by kernel_rfl) (by kernel_rfl) (by kernel_rfl) (fun _ _ _ h => h) (Or.inl ⟨by kernel_rfl, ?_⟩) ?_
          rotate_left
          · intro w'; go_simp <;> with_reducible rfl
          try simp only [Act.put, List.setIfInBounds_toArray, List.set_cons_zero, List.set_cons_succ]
          refine wpAny_take (i := 9) (oi := ⟨some 246, _, _, _, _, _⟩) (v := ?_) rfl (by kernel_rfl) (by kernel_rfl) (by kernel_rfl) (fun _ _ _ h => h) (Or.inl ⟨by kernel_rfl, ?_⟩) ?_
          rotate_left
          · intro w'; go_simp <;> with_reducible rfl
          try simp only [Act.put, List.setIfInBounds_toArray, List.set_cons_zero, List.set_cons_succ]
          refine wpAny_ready (rs := [5, 7]) (by kernel_rfl) (by simp) ?_
          refine AllReady.cons rfl (fun K hK => ?_) ?_
          · go_simp
            refine hK _ _ ?_
            clear hK K
            try simp only [Act.put, List.setIfInBounds_toArray, List.set_cons_zero, List.set_cons_succ]
            refine wpAny_ready (rs := [7]) (by kernel_rfl) (by simp) ?_
            refine AllReady.cons rfl (fun K hK => ?_) ?_
            · go_simp
              refine hK _ _ ?_
              clear hK K
              try simp only [Act.put, List.setIfInBounds_toArray, List.set_cons_zero, List.set_cons_succ]
              refine wpAny_ready (rs := [8]) (by kernel_rfl) (by simp) ?_
              refine AllReady.cons rfl (fun K hK => ?_) ?_
              · go_simp
                refine (kClock_c _ _ _ _ _ _ _ _ _ (by have := HF5.out.lt; omega) (by have := HF5.out.len; omega)).mono ?_
                rintro e w6 ⟨⟨cc, rfl, hcc⟩, hb6⟩
                have hb7 : Below w5.heap.size w5 w6 := bel (Below.refl _ _).drew hb6
                try simp only []
                refine hK _ _ ?_
                clear hK K
                try simp only [Act.put, List.setIfInBounds_toArray, List.set_cons_zero, List.set_cons_succ]
                refine wpAny_ready (rs := [10]) (by kernel_rfl) (by simp) ?_
                refine AllReady.cons rfl (fun K hK => ?_) ?_
                · go_simp
                  refine hK _ _ ?_
                  clear hK K
                  try simp only [Act.put, List.setIfInBounds_toArray, List.set_cons_zero, List.set_cons_succ]
                  refine wpAny_take (i := 11) (oi := ⟨some 248, _, _, _, _, _⟩) (v := ?_) rfl (by kernel_rfl) (by kernel_rfl) (by kernel_rfl) (fun _ _ _ h => h) (Or.inl ⟨by kernel_rfl, ?_⟩) ?_
                  rotate_left
                  · intro w'; go_simp <;> with_reducible rfl
                  try simp only [Act.put, List.setIfInBounds_toArray, List.set_cons_zero, List.set_cons_succ]
                  refine wpAny_ready (rs := [12]) (by kernel_rfl) (by simp) ?_
                  refine AllReady.cons rfl (fun K hK => ?_) ?_
                  · go_simp
                    refine (rAdd ⟨7, 0, wd, [(cc : Int), (p5 : Int)], [], 0, 0, 0⟩ (some ⟨_, 0, none⟩) 2 2 HR5.out (belA hb7 _) (two_new (HR5.out.below hb7).ls _ _) (Nk.flp hcc HF5.out.lt HF5.out.w wi1 wi2) (by have := HF5.out.len; omega)).mono ?_
                    rintro e wZ ⟨⟨kZ, rfl⟩, vZ, HRZ⟩
                    try simp only []
                    refine hK _ _ ?_
                    clear hK K
                    try simp only [Act.put, List.setIfInBounds_toArray, List.set_cons_zero, List.set_cons_succ]
                    refine wpAny_done (by kernel_rfl) ?_ _
                    go_wp2_with fail
                    go_roundw
                    case rel => exact ⟨i + 1, _, _, by omega, by omega, by go_num, HRZ.out.md (by rw [List.length_append]; have := HLi.out; have := HF5.out.len; have := HNL.out; simp; omega)⟩
                    case measure => simp [intOf]; omega
                  exact AllReady.nil
                exact AllReady.nil
              exact AllReady.nil
            exact AllReady.nil
          refine AllReady.cons rfl (fun K hK => ?_) ?_
          · go_simp
            refine hK _ _ ?_
            clear hK K
            try simp only [Act.put, List.setIfInBounds_toArray, List.set_cons_zero, List.set_cons_succ]
            refine wpAny_ready (rs := [5]) (by kernel_rfl) (by simp) ?_
            refine AllReady.cons rfl (fun K hK => ?_) ?_
            · go_simp
              refine hK _ _ ?_
              clear hK K
              try simp only [Act.put, List.setIfInBounds_toArray, List.set_cons_zero, List.set_cons_succ]
              refine wpAny_ready (rs := [8]) (by kernel_rfl) (by simp) ?_
              refine AllReady.cons rfl (fun K hK => ?_) ?_
              · go_simp
                refine (kClock_c _ _ _ _ _ _ _ _ _ (by have := HF5.out.lt; omega) (by have := HF5.out.len; omega)).mono ?_
                rintro e w6 ⟨⟨cc, rfl, hcc⟩, hb6⟩
                have hb7 : Below w5.heap.size w5 w6 := bel (Below.refl _ _).drew hb6
                try simp only []
                refine hK _ _ ?_
                clear hK K
                try simp only [Act.put, List.setIfInBounds_toArray, List.set_cons_zero, List.set_cons_succ]
                refine wpAny_ready (rs := [10]) (by kernel_rfl) (by simp) ?_
                refine AllReady.cons rfl (fun K hK => ?_) ?_
                · go_simp
                  refine hK _ _ ?_
                  clear hK K
                  try simp only [Act.put, List.setIfInBounds_toArray, List.set_cons_zero, List.set_cons_succ]
                  refine wpAny_take (i := 11) (oi := ⟨some 248, _, _, _, _, _⟩) (v := ?_) rfl (by kernel_rfl) (by kernel_rfl) (by kernel_rfl) (fun _ _ _ h => h) (Or.inl ⟨by kernel_rfl, ?_⟩) ?_
                  rotate_left
                  · intro w'; go_simp <;> with_reducible rfl
                  try simp only [Act.put, List.setIfInBounds_toArray, List.set_cons_zero, List.set_cons_succ]
                  refine wpAny_ready (rs := [12]) (by kernel_rfl) (by simp) ?_
                  refine AllReady.cons rfl (fun K hK => ?_) ?_
                  · go_simp
                    refine (rAdd ⟨7, 0, wd, [(cc : Int), (p5 : Int)], [], 0, 0, 0⟩ (some ⟨_, 0, none⟩) 2 2 HR5.out (belA hb7 _) (two_new (HR5.out.below hb7).ls _ _) (Nk.flp hcc HF5.out.lt HF5.out.w wi1 wi2) (by have := HF5.out.len; omega)).mono ?_
                    rintro e wZ ⟨⟨kZ, rfl⟩, vZ, HRZ⟩
                    try simp only []
                    refine hK _ _ ?_
                    clear hK K
                    try simp only [Act.put, List.setIfInBounds_toArray, List.set_cons_zero, List.set_cons_succ]
                    refine wpAny_done (by kernel_rfl) ?_ _
                    go_wp2_with fail
                    go_roundw
                    case rel => exact ⟨i + 1, _, _, by omega, by omega, by go_num, HRZ.out.md (by rw [List.length_append]; have := HLi.out; have := HF5.out.len; have := HNL.out; simp; omega)⟩
                    case measure => simp [intOf]; omega
                  exact AllReady.nil
                exact AllReady.nil
              exact AllReady.nil
            exact AllReady.nil
          exact AllReady.nil
      · skip
        as_aux_lemma =>
          obtain ⟨tt, htt⟩ : ∃ tt : Int, 1 + z3 % 4 = tt := ⟨_, rfl⟩
          have t1 : 1 ≤ tt := by omega
          have t2 : tt ≤ 4 := by omega
          go_wp2_with (first
            | (go_at_call 17; refine (rFit a (wd : Int) HR.out hal (by omega) wi1 wi2).mono ?_; rintro e w5 ⟨p5, l5, v5, rfl, HF5, HR5⟩; have y := cells5 HR5.out.xb; obtain ⟨y0, y1, y2, y3, y4⟩ := y; have lX5 := hLt HR5.out.xb; have c := cells3n HR5.out.ls.blk; obtain ⟨c0, c1, c2⟩ := c; have lb5 := hLt HR5.out.ls.blk; have sl := HR5.out.ls.slice_; obtain ⟨na5, nc5, rfl⟩ := sl)
            | (go_at_call 15; refine (rAdd ⟨8, 0, wd, [(p5 : Int)], [], 0, 0, tt⟩ (some ⟨_, 0, none⟩) 1 1 HR5.out (belA (Below.refl _ _) _) (one_new HR5.out.ls _) (Nk.del HF5.out.lt HF5.out.w wi1 wi2 t1 t2) (by have := HF5.out.len; omega)).mono ?_; rintro e wZ ⟨⟨kZ, rfl⟩, vZ, HRZ⟩))
          go_roundw
          case rel => exact ⟨i + 1, _, _, by omega, by omega, by go_num, HRZ.out.md (by rw [List.length_append]; have := HLi.out; have := HF5.out.len; have := HNL.out; simp; omega)⟩
          case measure => simp [intOf]; omega
      · skip
        obtain ⟨gN, oN, capN, hgN⟩ := HR.out.ls.nds.some_ (by omega)
        injection hgN with eN1 eN2 eN3
        subst eN1
        obtain ⟨glN, ga⟩ := HR.out.ls.nds.wd a hal
        rw [← wdAt_eq hal] at ga
        have a1 : (0 : Int) ≤ (a : Int) := by omega
        have a2 : (a : Int) < (n : Int) := by omega
        obtain ⟨wa1, wa2⟩ := HR.out.m.wd hal
        obtain ⟨glM, gb⟩ := HR.out.ls.nds.wd bb hbl
        rw [← wdAt_eq hbl] at gb
        have b1 : (0 : Int) ≤ (bb : Int) := by omega
        have b2 : (bb : Int) < (n : Int) := by omega
        obtain ⟨wb1, wb2⟩ := HR.out.m.wd hbl
        obtain ⟨wA, hwA⟩ : ∃ wA, wA = wdAt l (a : Int) := ⟨_, rfl⟩
        rw [← hwA] at ga wa1 wa2
        obtain ⟨wB, hwB⟩ : ∃ wB, wB = wdAt l (bb : Int) := ⟨_, rfl⟩
        rw [← hwB] at gb wb1 wb2
        have HWA : Hid (wA = wdAt l (a : Int)) := hwA
        have HWB : Hid (wB = wdAt l (bb : Int)) := hwB
        clear hwA hwB eN2 eN3
        have hsw : IntKind.i64.wrap (wA + wB) = wA + wB := by rw [IntKind.wrap_i64]; omega
        by_cases hs : 200 < wA + wB
        · as_aux_lemma =>
          go_wp2_with fail
          go_quiet (fail)
          go_wp2_with (first
            | (go_at_call 15; refine (rAdd ⟨3, 5, wA, [(a : Int)], [], 0, 0, 0⟩ (some ⟨(W1.drewN nq).heap.size, 0, none⟩) 1 1 (HR.out.below (belDN (Below.refl _ _) nq)) (belA (Below.refl _ _) _) (one_new (HR.out.below (belDN (Below.refl _ _) nq)).ls _) (by rw [HWA.out] at wa1 wa2 ⊢; exact Nk.ca1 hal ⟨wa1, wa2⟩) (by omega)).mono ?_; rintro e wZ ⟨⟨kZ, rfl⟩, vZ, HRZ⟩))
          go_roundw
          case rel => exact ⟨i + 1, _, _, by omega, by omega, by go_num, HRZ.out.md (by rw [List.length_append]; have := HLi.out; have := HNL.out; simp; omega)⟩
          case measure => simp [intOf]; omega
        · as_aux_lemma =>
          go_wp2_with fail
          go_quiet (fail)
          go_wp2_with (first
            | (go_at_call 15; refine (rAdd ⟨3, 5, wA + wB, [(a : Int), (bb : Int)], [], 0, 0, 0⟩ (some ⟨(W1.drewN nq).heap.size, 0, none⟩) 2 2 (HR.out.below (belDN (Below.refl _ _) nq)) (belA (Below.refl _ _) _) (two_new (HR.out.below (belDN (Below.refl _ _) nq)).ls _ _) (by have e1 := HWA.out; have e2 := HWB.out; subst e1 e2; exact Nk.ca2 hal hbl wa1 wb1 (by omega)) (by omega)).mono ?_; rintro e wZ ⟨⟨kZ, rfl⟩, vZ, HRZ⟩))
          go_roundw
          case rel => exact ⟨i + 1, _, _, by omega, by omega, by go_num, HRZ.out.md (by rw [List.length_append]; have := HLi.out; have := HNL.out; simp; omega)⟩
          case measure => simp [intOf]; omega
    · have hend : ¬ (i : Int) < (m : Int) ∨ ((i : Int) < (m : Int) ∧ ¬ (i : Int) < 40) := by omega
      clear hlt
      have hlen : l.length ≤ 122 := by have := HM.out.len; omega
      have hbw : Below w.heap.size w wr := (belA (Below.refl _ _) _).trans (HM.out.bel.mono (by omega))
      have hsz : w.heap.size + 1 ≤ wr.heap.size := by have := hLt HM.out.ls.blk; omega
      have HBk : Hid (Calls Try.prog 20 #[.pointer (some ⟨w.heap.size + 1, 0, none⟩), .slice ga m gc] wr fun e w' => e = .returned (.tuple #[]) ∧ ∃ l' vN', Hid (LsW (w.heap.size + 1) (w.heap.size + 1) l' vN' (.slice (some ⟨gT, 0, none⟩) 2 2) ⟨0, [0, 1]⟩ w') ∧ Hid (Mk l') ∧ Hid (l'.length ≤ 122) ∧ Hid (Below (w.heap.size + 1) (w.alloc (.cells #[.slice none 0 0, .slice none 0 0, .int .i64 0] 26)) w')) := by
        refine (kBack_c _ _ l vN (.slice (some ⟨gT, 0, none⟩) 2 2) _ _ m F wr HM.out.ls HM.out.m (HG.out.up hbw (by omega) hsz) (by omega) hm hsz).mono ?_
        rintro e w' ⟨rfl, ⟨l', vN', h1, h2, h3⟩, h4⟩
        exact ⟨rfl, l', vN', h1, h2, by show l'.length ≤ 122; omega, HM.out.bel.trans h4⟩
      rcases hend with e1 | ⟨e1, e2⟩
      all_goals as_aux_lemma =>
        go_wp2_with (first | (go_at_call 20; refine HBk.out.mono ?_; rintro e w5 ⟨rfl, l5, v5, HL5, HM5, HN5, HB5⟩))
        obtain ⟨na, nc, rfl⟩ := HL5.out.slice_
        obtain ⟨n, hn⟩ : ∃ n, n = l5.length := ⟨_, rfl⟩
        rw [← hn] at HL5 HN5
        have HNL : Hid (n = l5.length) := hn
        have hn2 : 2 ≤ n := by rw [hn]; exact HM5.out.two
        have hn3 : n ≤ 122 := HN5.out
        clear hn HBk HM hlen hbw hsz HG
        go_loopw [20] (fun s20 W => ∃ (j : Nat) (vTj : Value), j ≤ 4 ∧ s20 = .int .i64 j ∧ Hid (∀ q, q < j → q + 3 ≤ n) ∧ Hid (LsW (w.heap.size + 1) (w.heap.size + 1) l5 (.slice na n nc) vTj ⟨0, netsL n j⟩ W) ∧ Hid (Below (w.heap.size + 1) (w.alloc (.cells #[.slice none 0 0, .slice none 0 0, .int .i64 0] 26)) W)) (fun s20 W => 4 - (intOf s20).toNat)
        case atStart => exact ⟨0, (.slice (some ⟨gT, 0, none⟩) 2 2), Nat.zero_le _, rfl, fun q hq => absurd hq (Nat.not_lt_zero _), HL5.out, HB5.out⟩
        case round =>
          clear HL5 HB5
          obtain ⟨j, vTj, hj4, rfl, HJ, HL5, HB5⟩ := hrel
          obtain ⟨q0, q1, q2⟩ := cells3n HL5.out.blk
          have lb := hLt HL5.out.blk
          have qf := fun k => Lib.frozen_of_heap HL5.out.blk k
          obtain ⟨ta, tc, rfl⟩ := own_slice HL5.out.nt.1
          by_cases hlt : j < 4 ∧ j + 3 ≤ n
          · skip
            obtain ⟨j4, jn⟩ := hlt
            obtain ⟨t, htt⟩ : ∃ t, t = n - 1 - j := ⟨_, rfl⟩
            have HTT : Hid (t = n - 1 - j) := htt
            have s1 : IntKind.i64.wrap ((n : Int) - 1) = (n : Int) - 1 := by rw [IntKind.wrap_i64]; omega
            have s2 : IntKind.i64.wrap ((n : Int) - 1 - (j : Int)) = (t : Int) := by rw [IntKind.wrap_i64]; omega
            have j1 : (j : Int) < 4 := by omega
            have j2 : (1 : Int) < (n : Int) - 1 - (j : Int) := by omega
            have j3 : (1 : Int) < (t : Int) := by omega
            have j5 : 1 < t := by omega
            clear htt
            obtain ⟨i0, ti, tz0, tz1, tz2⟩ := infoInt
            have HLn : Hid ((netsL n j).length ≤ 6) := by show (netsL n j).length ≤ 6; rw [netsL_len]; omega
            have HBX : Hid (Below wr.heap.size wr (wr.drew.alloc (.cells #[.int .i64 (t : Int)] 3))) := belA ((Below.refl wr.heap.size wr).drew) _
            have HOA : Hid ((wr.drew.alloc (.cells #[.int .i64 (t : Int)] 3)).ownsRow (w.heap.size + 1) 3 1 (.slice ta (netsL n j).length tc) (netsL n j).length (iC (netsL n j))) := own_below HL5.out.nt.1 HBX.out
            have HCE : Hid (∀ (k : Nat) (u : Value), [Value.int .i64 (t : Int)][k]? = some u → (wr.drew.alloc (.cells #[.int .i64 (t : Int)] 3)).cell? ((⟨wr.heap.size, 0, none⟩ : Addr).add k) = some u) := new1i wr.drew _ _ _ rfl
            have HLB : Hid (w.heap.size + 1 < (wr.drew.alloc (.cells #[.int .i64 (t : Int)] 3)).heap.size) := by show _ < _; simp; omega
            have HNB : Hid (some (w.heap.size + 1) ≠ (Value.slice ta (netsL n j).length tc).ownBlock) := fun e => (HL5.out.nt.2 _ e.symm).2.1 rfl
            have HBB : Hid ((wr.drew.alloc (.cells #[.int .i64 (t : Int)] 3)).heap[w.heap.size + 1]? = some (.cells #[.slice na n nc, .slice ta (netsL n j).length tc, .int .i64 0] 51 (0, 0))) := (HBX.out.block _ lb).trans HL5.out.blk
            have ln : w.heap.size + 1 ≠ wr.heap.size := by omega
            go_wp2_with fail
            refine wp_region_any (by kernel_rfl) ?_
            try (change wpAny _ _ _ _ _ _ _ (World.drew _))
            refine wpAny_take (i := 0) (oi := ⟨some 285, _, _, _, _, _⟩) (v := ?_) rfl (by kernel_rfl) (by kernel_rfl) (by kernel_rfl) (fun _ _ _ h => h) (Or.inl ⟨by kernel_rfl, ?_⟩) ?_
            rotate_left
            · intro w'; go_simp <;> with_reducible rfl
            try simp only [Act.put, List.setIfInBounds_toArray, List.set_cons_zero, List.set_cons_succ]
            refine wpAny_take (i := 1) (oi := ⟨some 286, _, _, _, _, _⟩) (v := ?_) rfl (by kernel_rfl) (by kernel_rfl) (by kernel_rfl) (fun _ _ _ h => h) (Or.inl ⟨by kernel_rfl, ?_⟩) ?_
            rotate_left
            · intro w'; go_simp <;> with_reducible rfl
            try simp only [Act.put, List.setIfInBounds_toArray, List.set_cons_zero, List.set_cons_succ]
            refine wpAny_take (i := 2) (oi := ⟨some 287, _, _, _, _, _⟩) (v := ?_) rfl (by kernel_rfl) (by kernel_rfl) (by kernel_rfl) (fun _ _ _ h => h) (Or.inl ⟨by kernel_rfl, ?_⟩) ?_
            rotate_left
            · intro w'; go_simp <;> with_reducible rfl
            try simp only [Act.put, List.setIfInBounds_toArray, List.set_cons_zero, List.set_cons_succ]
            refine wpAny_take (i := 3) (oi := ⟨some 288, _, _, _, _, _⟩) (v := ?_) rfl (by kernel_rfl) (by kernel_rfl) (by kernel_rfl) (fun _ _ _ h => h) (Or.inl ⟨by kernel_rfl, ?_⟩) ?_
            rotate_left
            · intro w'; go_simp <;> with_reducible rfl
            try simp only [Act.put, List.setIfInBounds_toArray, List.set_cons_zero, List.set_cons_succ]
            refine wpAny_take (i := 4) (oi := ⟨some 289, _, _, _, _, _⟩) (v := ?_) rfl (by kernel_rfl) (by kernel_rfl) (by kernel_rfl) (fun _ _ _ h => h) (Or.inl ⟨by kernel_rfl, ?_⟩) ?_
            rotate_left
            · intro w'; go_simp <;> with_reducible rfl
            try simp only [Act.put, List.setIfInBounds_toArray, List.set_cons_zero, List.set_cons_succ]
            refine wpAny_take (i := 6) (oi := ⟨some 291, _, _, _, _, _⟩) (v := ?_) rfl (by kernel_rfl) (by kernel_rfl) (by kernel_rfl) (fun _ _ _ h => h) (Or.inl ⟨by kernel_rfl, ?_⟩) ?_
            rotate_left
            · intro w'; go_simp <;> with_reducible rfl
            try simp only [Act.put, List.setIfInBounds_toArray, List.set_cons_zero, List.set_cons_succ]
            refine wpAny_take (i := 7) (oi := ⟨some 292, _, _, _, _, _⟩) (v := ?_) rfl (by kernel_rfl) (by kernel_rfl) (by kernel_rfl) (fun _ _ _ h => h) (Or.inl ⟨by kernel_rfl, ?_⟩) ?_
            rotate_left
            · intro w'; go_simp <;> with_reducible rfl
            try simp only [Act.put, List.setIfInBounds_toArray, List.set_cons_zero, List.set_cons_succ]
            refine wpAny_take (i := 8) (oi := ⟨some 293, _, _, _, _, _⟩) (v := ?_) rfl (by kernel_rfl) (by kernel_rfl) (by kernel_rfl) (fun _ _ _ h => h) (Or.inl ⟨by kernel_rfl, ?_⟩) ?_
            rotate_left
            · intro w'; go_simp <;> with_reducible rfl
            try simp only [Act.put, List.setIfInBounds_toArray, List.set_cons_zero, List.set_cons_succ]
            refine wpAny_take (i := 9) (oi := ⟨some 294, _, _, _, _, _⟩) (v := ?_) rfl (by kernel_rfl) (by kernel_rfl) (by kernel_rfl) (fun _ _ _ h => h) (Or.inl ⟨by kernel_rfl, ?_⟩) ?_
            rotate_left
            · intro w'; go_simp <;> with_reducible rfl
            try simp only [Act.put, List.setIfInBounds_toArray, List.set_cons_zero, List.set_cons_succ]
            refine wpAny_take (i := 13) (oi := ⟨some 298, _, _, _, _, _⟩) (v := ?_) rfl (by kernel_rfl) (by kernel_rfl) (by kernel_rfl) (fun _ _ _ h => h) (Or.inl ⟨by kernel_rfl, ?_⟩) ?_
            rotate_left
            · intro w'; go_simp <;> with_reducible rfl
            try simp only [Act.put, List.setIfInBounds_toArray, List.set_cons_zero, List.set_cons_succ]
            refine wpAny_ready (rs := [5, 10]) (by kernel_rfl) (by simp) ?_
            refine AllReady.cons rfl (fun K hK => ?_) ?_
            · go_simp
              refine hK _ _ ?_
              clear hK K
              try simp only [Act.put, List.setIfInBounds_toArray, List.set_cons_zero, List.set_cons_succ]
              refine wpAny_ready (rs := [10]) (by kernel_rfl) (by simp) ?_
              refine AllReady.cons rfl (fun K hK => ?_) ?_
              · go_simp
                refine hK _ _ ?_
                clear hK K
                try simp only [Act.put, List.setIfInBounds_toArray, List.set_cons_zero, List.set_cons_succ]
                refine wpAny_take (i := 11) (oi := ⟨some 296, _, _, _, _, _⟩) (v := ?_) rfl (by kernel_rfl) (by kernel_rfl) (by kernel_rfl) (fun _ _ _ h => h) (Or.inl ⟨by kernel_rfl, ?_⟩) ?_
                rotate_left
                · intro w'; go_simp <;> with_reducible rfl
                try simp only [Act.put, List.setIfInBounds_toArray, List.set_cons_zero, List.set_cons_succ]
                refine wpAny_take (i := 12) (oi := ⟨some 297, _, _, _, _, _⟩) (v := ?_) rfl (by kernel_rfl) (by kernel_rfl) (by kernel_rfl) (fun _ _ _ h => h) (Or.inl ⟨by kernel_rfl, ?_⟩) ?_
                rotate_left
                · intro w'; go_simp <;> with_reducible rfl
                try simp only [Act.put, List.setIfInBounds_toArray, List.set_cons_zero, List.set_cons_succ]
                refine wpAny_take (i := 14) (oi := ⟨some 299, _, _, _, _, _⟩) (v := ?_) rfl (by kernel_rfl) (by kernel_rfl) (by kernel_rfl) (fun _ _ _ h => h) (Or.inl ⟨by kernel_rfl, ?_⟩) ?_
                rotate_left
                · intro w'; go_simp <;> with_reducible rfl
                try simp only [Act.put, List.setIfInBounds_toArray, List.set_cons_zero, List.set_cons_succ]
                refine wpAny_ready (rs := [15]) (by kernel_rfl) (by simp) ?_
                refine AllReady.cons rfl (fun K hK => ?_) ?_
                · go_simp
                  refine hK _ _ ?_
                  clear hK K
                  try simp only [Act.put, List.setIfInBounds_toArray, List.set_cons_zero, List.set_cons_succ]
                  refine wpAny_ready (rs := [16]) (by kernel_rfl) (by simp) ?_
                  refine AllReady.cons rfl (fun K hK => ?_) ?_
                  · refine step_ownG rfl _ _ 24 rfl (w.heap.size + 1) 3 i0 _ 1 8 Try.underlying24 ti tz0 tz1 tz2 rfl (by decide) (.slice ta (netsL n j).length tc) (netsL n j).length (iC (netsL n j)) (by simp [Act.eval, Act.put]) HOA.out ⟨wr.heap.size, 0, none⟩ 1 1 [.int .i64 (t : Int)] (by simp [Act.eval, Act.put]) rfl HCE.out (one1 _) (by unfold maxLen; have := HLn.out; omega) (by have := HLn.out; omega) (by simp; omega) ?_
                    intro v7 w7 ho7 hg7 ha7
                    obtain ⟨g7, c7, hv7⟩ := own_slice1 ho7
                    subst hv7
                    have f7 := (hg7.block (w.heap.size + 1) HLB.out HNB.out).trans HBB.out
                    obtain ⟨q0, q1, q2⟩ := cells3n f7
                    have qf := fun j => Lib.frozen_of_heap f7 j
                    try go_simp
                    refine hK _ _ ?_
                    clear hK K
                    try simp only [Act.put, List.setIfInBounds_toArray, List.set_cons_zero, List.set_cons_succ]
                    refine wpAny_take (i := 17) (oi := ⟨some 302, _, _, _, _, _⟩) (v := ?_) rfl (by kernel_rfl) (by kernel_rfl) (by kernel_rfl) (fun _ _ _ h => h) (Or.inl ⟨by kernel_rfl, ?_⟩) ?_
                    rotate_left
                    · intro w'; go_simp <;> with_reducible rfl
                    try simp only [Act.put, List.setIfInBounds_toArray, List.set_cons_zero, List.set_cons_succ]
                    refine wpAny_take (i := 18) (oi := ⟨some 303, _, _, _, _, _⟩) (v := ?_) rfl (by kernel_rfl) (by kernel_rfl) (by kernel_rfl) (fun _ _ _ h => h) (Or.inl ⟨by kernel_rfl, ?_⟩) ?_
                    rotate_left
                    · intro w'; go_simp <;> with_reducible rfl
                    try simp only [Act.put, List.setIfInBounds_toArray, List.set_cons_zero, List.set_cons_succ]
                    refine wpAny_take (i := 19) (oi := ⟨some 304, _, _, _, _, _⟩) (v := ?_) rfl (by kernel_rfl) (by kernel_rfl) (by kernel_rfl) (fun _ _ _ h => h) (Or.inl ⟨by kernel_rfl, ?_⟩) ?_
                    rotate_left
                    · intro w'; go_simp <;> with_reducible rfl
                    try simp only [Act.put, List.setIfInBounds_toArray, List.set_cons_zero, List.set_cons_succ]
                    refine wpAny_ready (rs := [20]) (by kernel_rfl) (by simp) ?_
                    refine AllReady.cons rfl (fun K hK => ?_) ?_
                    · go_simp
                      refine hK _ _ ?_
                      clear hK K
                      try simp only [Act.put, List.setIfInBounds_toArray, List.set_cons_zero, List.set_cons_succ]
                      refine wpAny_done (by kernel_rfl) ?_ _
                      have hN8 := nets_end HL5.out HBX.out ho7 hg7 ha7
                      replace hN8 : Hid _ := hN8
                      go_wp2_with fail
                      go_roundw
                      case rel => exact ⟨j + 1, _, by omega, by go_num, fun q hq => by have := HJ.out; rcases Nat.lt_succ_iff_lt_or_eq.1 hq with h | h; exact this q h; omega, by show LsW _ _ _ _ _ _ _; rw [netsL_succ, ← HTT.out]; exact hN8.out.1, HB5.out.trans hN8.out.2⟩
                      case measure => simp [intOf]; omega
                    exact AllReady.nil
                  exact AllReady.nil
                exact AllReady.nil
              exact AllReady.nil
            refine AllReady.cons rfl (fun K hK => ?_) ?_
            · go_simp
              refine hK _ _ ?_
              clear hK K
              try simp only [Act.put, List.setIfInBounds_toArray, List.set_cons_zero, List.set_cons_succ]
              refine wpAny_take (i := 11) (oi := ⟨some 296, _, _, _, _, _⟩) (v := ?_) rfl (by kernel_rfl) (by kernel_rfl) (by kernel_rfl) (fun _ _ _ h => h) (Or.inl ⟨by kernel_rfl, ?_⟩) ?_
              rotate_left
              · intro w'; go_simp <;> with_reducible rfl
              try simp only [Act.put, List.setIfInBounds_toArray, List.set_cons_zero, List.set_cons_succ]
              refine wpAny_take (i := 12) (oi := ⟨some 297, _, _, _, _, _⟩) (v := ?_) rfl (by kernel_rfl) (by kernel_rfl) (by kernel_rfl) (fun _ _ _ h => h) (Or.inl ⟨by kernel_rfl, ?_⟩) ?_
              rotate_left
              · intro w'; go_simp <;> with_reducible rfl
              try simp only [Act.put, List.setIfInBounds_toArray, List.set_cons_zero, List.set_cons_succ]
              refine wpAny_take (i := 14) (oi := ⟨some 299, _, _, _, _, _⟩) (v := ?_) rfl (by kernel_rfl) (by kernel_rfl) (by kernel_rfl) (fun _ _ _ h => h) (Or.inl ⟨by kernel_rfl, ?_⟩) ?_
              rotate_left
              · intro w'; go_simp <;> with_reducible rfl
              try simp only [Act.put, List.setIfInBounds_toArray, List.set_cons_zero, List.set_cons_succ]
              refine wpAny_ready (rs := [5, 15]) (by kernel_rfl) (by simp) ?_
              refine AllReady.cons rfl (fun K hK => ?_) ?_
              · go_simp
                refine hK _ _ ?_
                clear hK K
                try simp only [Act.put, List.setIfInBounds_toArray, List.set_cons_zero, List.set_cons_succ]
                refine wpAny_ready (rs := [15]) (by kernel_rfl) (by simp) ?_
                refine AllReady.cons rfl (fun K hK => ?_) ?_
                · go_simp
                  refine hK _ _ ?_
                  clear hK K
                  try simp only [Act.put, List.setIfInBounds_toArray, List.set_cons_zero, List.set_cons_succ]
                  refine wpAny_ready (rs := [16]) (by kernel_rfl) (by simp) ?_
                  refine AllReady.cons rfl (fun K hK => ?_) ?_
                  · refine step_ownG rfl _ _ 24 rfl (w.heap.size + 1) 3 i0 _ 1 8 Try.underlying24 ti tz0 tz1 tz2 rfl (by decide) (.slice ta (netsL n j).length tc) (netsL n j).length (iC (netsL n j)) (by simp [Act.eval, Act.put]) HOA.out ⟨wr.heap.size, 0, none⟩ 1 1 [.int .i64 (t : Int)] (by simp [Act.eval, Act.put]) rfl HCE.out (one1 _) (by unfold maxLen; have := HLn.out; omega) (by have := HLn.out; omega) (by simp; omega) ?_
                    intro v7 w7 ho7 hg7 ha7
                    obtain ⟨g7, c7, hv7⟩ := own_slice1 ho7
                    subst hv7
                    have f7 := (hg7.block (w.heap.size + 1) HLB.out HNB.out).trans HBB.out
                    obtain ⟨q0, q1, q2⟩ := cells3n f7
                    have qf := fun j => Lib.frozen_of_heap f7 j
                    try go_simp
                    refine hK _ _ ?_
                    clear hK K
                    try simp only [Act.put, List.setIfInBounds_toArray, List.set_cons_zero, List.set_cons_succ]
                    refine wpAny_take (i := 17) (oi := ⟨some 302, _, _, _, _, _⟩) (v := ?_) rfl (by kernel_rfl) (by kernel_rfl) (by kernel_rfl) (fun _ _ _ h => h) (Or.inl ⟨by kernel_rfl, ?_⟩) ?_
                    rotate_left
                    · intro w'; go_simp <;> with_reducible rfl
                    try simp only [Act.put, List.setIfInBounds_toArray, List.set_cons_zero, List.set_cons_succ]
                    refine wpAny_take (i := 18) (oi := ⟨some 303, _, _, _, _, _⟩) (v := ?_) rfl (by kernel_rfl) (by kernel_rfl) (by kernel_rfl) (fun _ _ _ h => h) (Or.inl ⟨by kernel_rfl, ?_⟩) ?_
                    rotate_left
                    · intro w'; go_simp <;> with_reducible rfl
                    try simp only [Act.put, List.setIfInBounds_toArray, List.set_cons_zero, List.set_cons_succ]
                    refine wpAny_take (i := 19) (oi := ⟨some 304, _, _, _, _, _⟩) (v := ?_) rfl (by kernel_rfl) (by kernel_rfl) (by kernel_rfl) (fun _ _ _ h => h) (Or.inl ⟨by kernel_rfl, ?_⟩) ?_
                    rotate_left
                    · intro w'; go_simp <;> with_reducible rfl
                    try simp only [Act.put, List.setIfInBounds_toArray, List.set_cons_zero, List.set_cons_succ]
                    refine wpAny_ready (rs := [20]) (by kernel_rfl) (by simp) ?_
                    refine AllReady.cons rfl (fun K hK => ?_) ?_
                    · go_simp
                      refine hK _ _ ?_
                      clear hK K
                      try simp only [Act.put, List.setIfInBounds_toArray, List.set_cons_zero, List.set_cons_succ]
                      refine wpAny_done (by kernel_rfl) ?_ _
                      have hN8 := nets_end HL5.out HBX.out ho7 hg7 ha7
                      replace hN8 : Hid _ := hN8
                      go_wp2_with fail
                      go_roundw
                      case rel => exact ⟨j + 1, _, by omega, by go_num, fun q hq => by have := HJ.out; rcases Nat.lt_succ_iff_lt_or_eq.1 hq with h | h; exact this q h; omega, by show LsW _ _ _ _ _ _ _; rw [netsL_succ, ← HTT.out]; exact hN8.out.1, HB5.out.trans hN8.out.2⟩
                      case measure => simp [intOf]; omega
                    exact AllReady.nil
                  exact AllReady.nil
                exact AllReady.nil
              refine AllReady.cons rfl (fun K hK => ?_) ?_
              · go_simp
                refine hK _ _ ?_
                clear hK K
                try simp only [Act.put, List.setIfInBounds_toArray, List.set_cons_zero, List.set_cons_succ]
                refine wpAny_ready (rs := [5]) (by kernel_rfl) (by simp) ?_
                refine AllReady.cons rfl (fun K hK => ?_) ?_
                · go_simp
                  refine hK _ _ ?_
                  clear hK K
                  try simp only [Act.put, List.setIfInBounds_toArray, List.set_cons_zero, List.set_cons_succ]
                  refine wpAny_ready (rs := [16]) (by kernel_rfl) (by simp) ?_
                  refine AllReady.cons rfl (fun K hK => ?_) ?_
                  · refine step_ownG rfl _ _ 24 rfl (w.heap.size + 1) 3 i0 _ 1 8 Try.underlying24 ti tz0 tz1 tz2 rfl (by decide) (.slice ta (netsL n j).length tc) (netsL n j).length (iC (netsL n j)) (by simp [Act.eval, Act.put]) HOA.out ⟨wr.heap.size, 0, none⟩ 1 1 [.int .i64 (t : Int)] (by simp [Act.eval, Act.put]) rfl HCE.out (one1 _) (by unfold maxLen; have := HLn.out; omega) (by have := HLn.out; omega) (by simp; omega) ?_
                    intro v7 w7 ho7 hg7 ha7
                    obtain ⟨g7, c7, hv7⟩ := own_slice1 ho7
                    subst hv7
                    have f7 := (hg7.block (w.heap.size + 1) HLB.out HNB.out).trans HBB.out
                    obtain ⟨q0, q1, q2⟩ := cells3n f7
                    have qf := fun j => Lib.frozen_of_heap f7 j
                    try go_simp
                    refine hK _ _ ?_
                    clear hK K
                    try simp only [Act.put, List.setIfInBounds_toArray, List.set_cons_zero, List.set_cons_succ]
                    refine wpAny_take (i := 17) (oi := ⟨some 302, _, _, _, _, _⟩) (v := ?_) rfl (by kernel_rfl) (by kernel_rfl) (by kernel_rfl) (fun _ _ _ h => h) (Or.inl ⟨by kernel_rfl, ?_⟩) ?_
                    rotate_left
                    · intro w'; go_simp <;> with_reducible rfl
                    try simp only [Act.put, List.setIfInBounds_toArray, List.set_cons_zero, List.set_cons_succ]
                    refine wpAny_take (i := 18) (oi := ⟨some 303, _, _, _, _, _⟩) (v := ?_) rfl (by kernel_rfl) (by kernel_rfl) (by kernel_rfl) (fun _ _ _ h => h) (Or.inl ⟨by kernel_rfl, ?_⟩) ?_
                    rotate_left
                    · intro w'; go_simp <;> with_reducible rfl
                    try simp only [Act.put, List.setIfInBounds_toArray, List.set_cons_zero, List.set_cons_succ]
                    refine wpAny_take (i := 19) (oi := ⟨some 304, _, _, _, _, _⟩) (v := ?_) rfl (by kernel_rfl) (by kernel_rfl) (by kernel_rfl) (fun _ _ _ h => h) (Or.inl ⟨by kernel_rfl, ?_⟩) ?_
                    rotate_left
                    · intro w'; go_simp <;> with_reducible rfl
                    try simp only [Act.put, List.setIfInBounds_toArray, List.set_cons_zero, List.set_cons_succ]
                    refine wpAny_ready (rs := [20]) (by kernel_rfl) (by simp) ?_
                    refine AllReady.cons rfl (fun K hK => ?_) ?_
                    · go_simp
                      refine hK _ _ ?_
                      clear hK K
                      try simp only [Act.put, List.setIfInBounds_toArray, List.set_cons_zero, List.set_cons_succ]
                      refine wpAny_done (by kernel_rfl) ?_ _
                      have hN8 := nets_end HL5.out HBX.out ho7 hg7 ha7
                      replace hN8 : Hid _ := hN8
                      go_wp2_with fail
                      go_roundw
                      case rel => exact ⟨j + 1, _, by omega, by go_num, fun q hq => by have := HJ.out; rcases Nat.lt_succ_iff_lt_or_eq.1 hq with h | h; exact this q h; omega, by show LsW _ _ _ _ _ _ _; rw [netsL_succ, ← HTT.out]; exact hN8.out.1, HB5.out.trans hN8.out.2⟩
                      case measure => simp [intOf]; omega
                    exact AllReady.nil
                  exact AllReady.nil
                exact AllReady.nil
              exact AllReady.nil
            exact AllReady.nil
          · have hend : ¬ (j : Int) < 4 ∨ ((j : Int) < 4 ∧ ¬ (1 : Int) < (n : Int) - 1 - (j : Int)) := by omega
            clear hlt
            have hR := (HB5.out.block w.heap.size (by omega)).trans (alAt rfl)
            obtain ⟨r0, r1, r2⟩ := cells3n hR
            have rf := fun k => Lib.frozen_of_heap hR k
            have lR := hLt hR
            rcases hend with e3 | ⟨e3, e4⟩
            all_goals
              go_wp2_with fail
              refine bodyPost_ret (results_cell3 (r := 2) (t := 26) rfl w.heap.size rfl _ _ _ (hset3all ((Below.heap_setCell _ _ _ _ (by show w.heap.size ≠ w.heap.size + 1; omega)).trans hR) _ _ _) Try.underlying26 rfl netl_size) rfl ?_
              exact ⟨l5, netsL n j, _, _, rfl, (HL5.out.fin (made_keep _ _ _ _ _ _)).1, (HL5.out.fin (made_keep _ _ _ _ _ _)).2, HM5.out, by show l5.length ≤ 122 ∧ (netsL n j).length ≤ 6; rw [← HNL.out, netsL_len]; exact ⟨hn3, by omega⟩, by show mayN _ _ _ = true; rw [HNL.out]; exact netsL_may HM5.out (by rw [← HNL.out]; omega) (by rw [← HNL.out]; exact HJ.out), made_below HB5.out _ _ _ _⟩
end Go.Proofs.Ytclcpfhbmoaadaa
