/- Layer 4 of the program: signs and words that may or have to come next. -/
import Derived.Test.YthdhmlojihpfkaaGreatSB
namespace Go.Proofs.YthdhmlojihpfkaaGreat
open Go.RowKit Lg
set_option linter.unusedVariables false
set_option linter.unusedSimpArgs false

theorem St.nextX {b g cap k : Nat} {l : List Tok} {w : World} {x : List UInt8} (h : St b g cap l k w) (hx : fx l k = x) (h0 : x ≠ []) : k + 1 < l.length := h.next (fx_kind (by rw [hx]; exact h0))
theorem fld1 (a b c : Value) (w : World) : (Instr.field 33 (.agg #[a, b, c]) 1).run Tryz.prog w = .ok b w := by kernel_rfl
theorem fld2 (a b c : Value) (w : World) : (Instr.field 33 (.agg #[a, b, c]) 2).run Tryz.prog w = .ok c w := by kernel_rfl
theorem nmB_kind {t : Tok} (h : nmB t = true) : t.k ≠ 6 := by
  intro e
  unfold nmB at h
  rw [e] at h
  simp at h
set_option maxRecDepth 100000 in
set_option maxHeartbeats 1000000 in
/-- what may come next does, and is gone past -/
theorem pTakesY {b g cap k : Nat} {l : List Tok} {w : World} (h : St b g cap l k w) (x : ByteArray) (hx : fx l k = L x) (h0 : L x ≠ []) : Calls Tryz.prog 67 #[.pointer (some ⟨b, 0, none⟩), .string x] w fun e w' => e = .returned (.bool true) ∧ St b g cap l (k + 1) w' ∧ Kp b w w' := by
  have HS := pSees h x
  rw [show (fx l k == L x) = true by rw [hx]; simp] at HS
  have HN : Hid _ := h.nextX hx h0
  have HT : Hid _ := h
  clear hx h0 h
  go_enter Tryz.func67, Tryz.ntmps67
  go_wp2_with (first
    | (go_at_call 70; refine HS.mono ?_; rintro e w1 ⟨rfl, hb1⟩)
    | (go_at_call 85; refine (pStep (HT.out.below hb1) HN.out).mono ?_; rintro e w2 ⟨rfl, hs2, hk2⟩))
  go_ret
  exact ⟨rfl, hs2, (Kp.of hb1).trans hk2⟩
set_option maxRecDepth 100000 in
set_option maxHeartbeats 1000000 in
theorem pTakesN {b g cap k : Nat} {l : List Tok} {w : World} (h : St b g cap l k w) (x : ByteArray) (hx : fx l k ≠ L x) : Calls Tryz.prog 67 #[.pointer (some ⟨b, 0, none⟩), .string x] w fun e w' => e = .returned (.bool false) ∧ Below w.heap.size w w' := by
  have HS := pSees h x
  rw [show (fx l k == L x) = false by simpa using hx] at HS
  clear hx h
  go_enter Tryz.func67, Tryz.ntmps67
  go_wp2_with (first
    | (go_at_call 70; refine HS.mono ?_; rintro e w1 ⟨rfl, hb1⟩))
  go_ret
  exact ⟨rfl, hb1⟩
set_option maxRecDepth 100000 in
set_option maxHeartbeats 1000000 in
theorem pNeedY {b g cap k : Nat} {l : List Tok} {w : World} (h : St b g cap l k w) (x : ByteArray) (hx : fx l k = L x) (h0 : L x ≠ []) : Calls Tryz.prog 65 #[.pointer (some ⟨b, 0, none⟩), .string x] w fun e w' => e = .returned (.tuple #[]) ∧ St b g cap l (k + 1) w' ∧ Kp b w w' := by
  have HS := pTakesY h x hx h0
  clear hx h0 h
  have hf1 := fld1
  have hf2 := fld2
  go_enter Tryz.func65, Tryz.ntmps65
  go_wp2_with (first
    | (go_at_call 67; refine HS.mono ?_; rintro e w1 ⟨rfl, hs1, hk1⟩))
  go_end0
  exact ⟨rfl, hs1, hk1⟩
set_option maxRecDepth 100000 in
set_option maxHeartbeats 1000000 in
theorem pNeedN {b g cap k : Nat} {l : List Tok} {w : World} (h : St b g cap l k w) (x : ByteArray) (hx : fx l k ≠ L x) : Calls Tryz.prog 65 #[.pointer (some ⟨b, 0, none⟩), .string x] w fun e w' => e = .panicked (pnW (tk l k).p) ∧ Kp b w w' := by
  have HS := pTakesN h x hx
  have HT : Hid _ := h
  obtain ⟨⟨kk, tx, p⟩, ht⟩ : ∃ t, t = tk l k := ⟨_, rfl⟩
  have HH := fun w' (hb : Below w.heap.size w w') => pHere (h.below hb)
  rw [← ht] at HH ⊢
  unfold tkV at HH
  simp only at HH ⊢
  clear hx h ht
  have hf1 := fld1
  have hf2 := fld2
  go_enter Tryz.func65, Tryz.ntmps65
  go_wp2_with (first
    | (go_at_call 67; refine HS.mono ?_; rintro e w1 ⟨rfl, hb1⟩)
    | (go_at_call 53; refine (HH _ hb1).mono ?_; rintro e w2 ⟨rfl, hb2⟩))
  exact ⟨rfl, rfl, Kp.of (bel hb1 hb2)⟩
set_option maxRecDepth 100000 in
set_option maxHeartbeats 1000000 in
theorem pOpenY {b g cap k : Nat} {l : List Tok} {w : World} (h : St b g cap l k w) (d : Nat) (hd : d ≤ 32) (hk : k + 1 < l.length) : Calls Tryz.prog 99 #[.pointer (some ⟨b, 0, none⟩), .int .i64 d] w fun e w' => e = .returned (tkV (tk l k)) ∧ St b g cap l (k + 1) w' ∧ Kp b w w' := by
  have HP := fun w' (hb : Below w.heap.size w w') => pStep (h.below hb) hk
  obtain ⟨⟨kk, tx, p⟩, ht⟩ : ∃ t, t = tk l k := ⟨_, rfl⟩
  rw [← ht] at HP ⊢
  unfold tkV at HP ⊢
  simp only at HP ⊢
  obtain ⟨sx, hsx⟩ : ∃ sx, sx = S tx := ⟨_, rfl⟩
  rw [← hsx] at HP ⊢
  have hdI : (d : Int) ≤ 32 := by omega
  have HT : Hid _ := h
  clear hk ht hsx h hd
  have hf1 := fld1
  have hf2 := fld2
  go_enter Tryz.func99, Tryz.ntmps99
  go_wp2_with (first
    | (go_at_call 85; refine (HP _ bxS).mono ?_; rintro e w1 ⟨rfl, hs1, hk1⟩; obtain ⟨r0, r1, r2, rf, rl⟩ := res_cellsK hk1 HT.out.blt))
  refine bodyPost_ret (v := .agg #[.int .i64 kk, .string sx, .int .i64 p]) (by simp [results, Tryz.results99, go_sem, r0, r1, r2, rf, rl]) rfl ?_
  have hg := HT.out.lt
  have hb := HT.out.blt
  exact ⟨rfl, ((hs1.setR (by omega) (by omega)).setR (by omega) (by omega)).setR (by omega) (by omega), (((((Kp.of bxS).trans hk1).setR (Nat.le_refl _)).setR (Nat.le_refl _)).setR (Nat.le_refl _))⟩
set_option maxRecDepth 100000 in
set_option maxHeartbeats 1000000 in
theorem pOpenN {b g cap k : Nat} {l : List Tok} {w : World} (h : St b g cap l k w) (d : Nat) (hd : 32 < d) (hd2 : d ≤ 1000) : Calls Tryz.prog 99 #[.pointer (some ⟨b, 0, none⟩), .int .i64 d] w fun e w' => e = .panicked (pnD (tk l k).p) ∧ Kp b w w' := by
  have HH := fun w' (hb : Below w.heap.size w w') => pHere (h.below hb)
  obtain ⟨⟨kk, tx, p⟩, ht⟩ : ∃ t, t = tk l k := ⟨_, rfl⟩
  rw [← ht] at HH ⊢
  unfold tkV at HH
  simp only at HH ⊢
  have hdI : (32 : Int) < (d : Int) := by omega
  clear ht h hd
  have hf1 := fld1
  have hf2 := fld2
  go_enter Tryz.func99, Tryz.ntmps99
  go_wp2_with (first
    | (go_at_call 53; refine (HH _ bxS).mono ?_; rintro e w2 ⟨rfl, hb2⟩))
  exact ⟨rfl, rfl, Kp.of (bel bxS hb2)⟩
set_option maxRecDepth 100000 in
set_option maxHeartbeats 1000000 in
theorem pNameY {b g cap k : Nat} {l : List Tok} {w : World} (h : St b g cap l k w) (hx : nmB (tk l k) = true) : Calls Tryz.prog 66 #[.pointer (some ⟨b, 0, none⟩)] w fun e w' => e = .returned (.string (S (tk l k).x)) ∧ St b g cap l (k + 1) w' ∧ Kp b w w' := by
  have HN := fun w => isName_c (tk l k) w
  rw [hx] at HN
  have HH := fun w' (hb : Below w.heap.size w w') => pHere (h.below hb)
  have HP := fun w' (hb : Below w.heap.size w w') => pStep (h.below hb) (h.next (nmB_kind hx))
  obtain ⟨⟨kk, tx, p⟩, ht⟩ : ∃ t, t = tk l k := ⟨_, rfl⟩
  rw [← ht] at HH HN HP ⊢
  unfold tkV at HH HN HP
  simp only at HH HN HP ⊢
  obtain ⟨sx, hsx⟩ : ∃ sx, sx = S tx := ⟨_, rfl⟩
  rw [← hsx] at HH HN HP ⊢
  clear ht h hx hsx
  have hf1 := fld1
  have hf2 := fld2
  go_enter Tryz.func66, Tryz.ntmps66
  go_wp2_with (first
    | (go_at_call 53; refine (HH _ (Below.refl _ _)).mono ?_; rintro e w1 ⟨rfl, hb1⟩)
    | (go_at_call 84; refine (HN _).mono ?_; rintro e w2 ⟨rfl, hb2⟩)
    | (go_at_call 85; refine (HP _ (bel hb1 hb2)).mono ?_; rintro e w3 ⟨rfl, hs3, hk3⟩))
  go_ret
  exact ⟨rfl, hs3, (Kp.of (bel hb1 hb2)).trans hk3⟩
set_option maxRecDepth 100000 in
set_option maxHeartbeats 1000000 in
theorem pNameN {b g cap k : Nat} {l : List Tok} {w : World} (h : St b g cap l k w) (hx : nmB (tk l k) = false) : Calls Tryz.prog 66 #[.pointer (some ⟨b, 0, none⟩)] w fun e w' => e = .panicked (pnW (tk l k).p) ∧ Kp b w w' := by
  have HN := fun w => isName_c (tk l k) w
  rw [hx] at HN
  have HH := fun w' (hb : Below w.heap.size w w') => pHere (h.below hb)
  obtain ⟨⟨kk, tx, p⟩, ht⟩ : ∃ t, t = tk l k := ⟨_, rfl⟩
  rw [← ht] at HH HN ⊢
  unfold tkV at HH HN
  simp only at HH HN ⊢
  obtain ⟨sx, hsx⟩ : ∃ sx, sx = S tx := ⟨_, rfl⟩
  rw [← hsx] at HH HN
  clear ht h hx hsx
  have hf1 := fld1
  have hf2 := fld2
  go_enter Tryz.func66, Tryz.ntmps66
  go_wp2_with (first
    | (go_at_call 53; have hx := hb2; refine (HH _ (bel hb1 hb2)).mono ?_; rintro e w3 ⟨rfl, hb3⟩)
    | (go_at_call 53; refine (HH _ (Below.refl _ _)).mono ?_; rintro e w1 ⟨rfl, hb1⟩)
    | (go_at_call 84; refine (HN _).mono ?_; rintro e w2 ⟨rfl, hb2⟩))
  exact ⟨rfl, rfl, Kp.of (bel (bel hb1 hb2) hb3)⟩
end Go.Proofs.YthdhmlojihpfkaaGreat
