/- Layer 19 of the program: codes, a value's line. -/
import Derived.Test.YtfcongggmjijfaaDoorUB
import Derived.Test.YtfcongggmjijfaaDoorDH
namespace Go.Proofs.YtfcongggmjijfaaDoor
set_option maxRecDepth 100000
open Go.RowKit Lg Nl Go.Maps Wf Vd
set_option linter.unusedVariables false
set_option linter.unusedSimpArgs false

theorem put_ok (b : Nat) (l : List UInt8) (ps : List ByteArray) (t : List UInt8) (n : Nat) (cs : Array Value) (W : World) (hcs : cs = (ps.map Value.string).toArray) (ht : t = l ++ lineT ps) (hn : n = ps.length) (h : Bu b W l) (hl : t.length ≤ maxO) (hn16 : n ≤ 16) (hs : ∀ s ∈ ps, s.size ≤ 100000) :
    Calls Tryd.prog 39 #[.pointer (some ⟨b, 0, none⟩), .slice (some ⟨W.heap.size, 0, none⟩) n n] (W.alloc (.cells cs 9)) fun e w' => e = .returned (.tuple #[]) ∧ Bu b w' t ∧ Kb b W w' := by
  subst hcs
  have hb : Below W.heap.size W (W.alloc (.cells (ps.map Value.string).toArray 9)) := belA (Below.refl _ _) _
  have hlt := h.lt
  refine (line_ok b W.heap.size l ps t n _ ht hn (h.below hb) (alAt rfl) (by omega) hl hn16 hs).mono ?_
  rintro e w' ⟨h1, h2, h3⟩
  exact ⟨h1, h2, (Kb.of hb (Nat.le_of_lt hlt)).trans h3⟩
theorem put_no (b : Nat) (l : List UInt8) (ps : List ByteArray) (t : List UInt8) (n : Nat) (cs : Array Value) (W : World) (hcs : cs = (ps.map Value.string).toArray) (ht : t = l ++ lineT ps) (hn : n = ps.length) (h : Bu b W l) (hll : l.length ≤ maxO) (hl : maxO < t.length) (hn16 : n ≤ 16) (hs : ∀ s ∈ ps, s.size ≤ 100000) :
    Calls Tryd.prog 39 #[.pointer (some ⟨b, 0, none⟩), .slice (some ⟨W.heap.size, 0, none⟩) n n] (W.alloc (.cells cs 9)) fun e w' => e = .panicked pnV ∧ Kb b W w' := by
  subst hcs
  have hb : Below W.heap.size W (W.alloc (.cells (ps.map Value.string).toArray 9)) := belA (Below.refl _ _) _
  have hlt := h.lt
  refine (line_no b W.heap.size l ps t n _ ht hn (h.below hb) (alAt rfl) (by omega) hll hl hn16 hs).mono ?_
  rintro e w' ⟨h1, h3⟩
  exact ⟨h1, (Kb.of hb (Nat.le_of_lt hlt)).trans h3⟩
theorem Ln.pre {b : Nat} {w w1 w' : World} {t : List UInt8} {e : Ending} (h : Ln b w1 t e w') (k : Kb b w w1) : Ln b w t e w' := ⟨k.trans h.1, h.2⟩
theorem Ln.dead {b : Nat} {w w' : World} {t : List UInt8} (r : List UInt8) (k : Kb b w w') (ht : maxO < t.length) : Ln b w (t ++ r) (.panicked pnV) w' := ⟨k, Or.inr ⟨by rw [List.length_append]; omega, rfl⟩⟩
theorem Ln.live {b : Nat} {w w' : World} {t : List UInt8} (k : Kb b w w') (h : Bu b w' t) (ht : t.length ≤ maxO) : Ln b w t (.returned (.tuple #[])) w' := ⟨k, Or.inl ⟨ht, rfl, h⟩⟩
theorem digit_c (m : Nat) (w : World) (hm : m < 4096) : Calls Tryd.prog 22 #[.int .i64 m] w fun e w' => e = .returned (.int .u8 ((by8 (33 + m % 94)).toNat : Int)) ∧ w = w' := by
  have HZ := hidV (by8_nat (m % 94) (Nat.mod_lt _ (by decide)))
  go_enter Tryd.func22, Tryd.ntmps22
  go_wp2
  go_ret
  refine ⟨?_, rfl⟩
  rw [HZ.out]
  congr 2
def tailL (m : Nat) : List UInt8 := if m < 94 then [] else [by8 (33 + (m / 94 - 1) % 94)]
theorem code_tail (n : Nat) (h : n < 4096) : codeL n = [by8 (33 + n % 94)] ++ tailL n := by
  unfold codeL tailL
  by_cases h1 : n < 94
  · rw [if_pos h1, if_pos h1, Nat.mod_eq_of_lt h1]; rfl
  · rw [if_neg h1, if_neg h1, Nat.mod_eq_of_lt (a := n / 94 - 1) (by omega)]; rfl
theorem own1 {B n : Nat} {w : World} {z : UInt8} {x : Int} (hz : (z.toNat : Int) = x) (hn : w.heap.size = n) (hB : B ≤ n) : Ob B (w.alloc (.cells #[.int .u8 x] 5)) (some ⟨n, 0, none⟩) 1 1 [z] := by
  subst hz
  exact ⟨⟨rfl, Or.inr ⟨n, 1, #[.int .u8 z.toNat], rfl, hB, alAt hn, Nat.le_refl _, by decide, rfl, rfl⟩⟩, rfl⟩
set_option maxHeartbeats 1000000 in
theorem codeW_c : CodeC := by
  intro n w h0 h1
  by_cases hn0 : n < 0
  · have q : okN n = false := decide_eq_false (by omega)
    have HE : Hid (S (cdT n) = ⟨#[]⟩ ∧ cdE n = 1) := by unfold cdT cdE; rw [q]; exact ⟨rfl, rfl⟩
    go_enter Tryd.func13, Tryd.ntmps13
    go_wp2_with fail
    go_ret2
    rw [HE.out.1, HE.out.2]
    exact ⟨rfl, Below.refl _ _⟩
  by_cases hn1 : (4096 : Int) ≤ n
  · have q : okN n = false := decide_eq_false (by omega)
    have HE : Hid (S (cdT n) = ⟨#[]⟩ ∧ cdE n = 1) := by unfold cdT cdE; rw [q]; exact ⟨rfl, rfl⟩
    go_enter Tryd.func13, Tryd.ntmps13
    go_wp2_with fail
    go_ret2
    rw [HE.out.1, HE.out.2]
    exact ⟨rfl, Below.refl _ _⟩
  obtain ⟨k, rfl⟩ : ∃ k : Nat, n = (k : Int) := ⟨n.toNat, by omega⟩
  have hk : k < 4096 := by omega
  have q : okN (k : Int) = true := decide_eq_true (by omega)
  have HE : Hid (S (cdT k) = S (codeL k) ∧ cdE k = 0) := by unfold cdT cdE; rw [q]; exact ⟨rfl, rfl⟩
  have HK := hidV hk
  have HT := hidV (code_tail k hk)
  have HD := hidV (digit_c k w hk)
  obtain ⟨z0, hz0⟩ : ∃ z, z = by8 (33 + k % 94) := ⟨_, rfl⟩
  rw [← hz0] at HT HD
  clear q hz0 h0 h1 hk
  go_enter Tryd.func13, Tryd.ntmps13
  go_upto_region 3 with fail
  clear hn0 hn1
  obtain ⟨W1, hW1⟩ : ∃ W1, W1 = w.alloc (.cells #[.int .u8 z0.toNat] 5) := ⟨_, rfl⟩
  have HO1 : Hid (Ob w.heap.size W1 (some ⟨w.heap.size, 0, none⟩) 1 1 [z0]) := by rw [hW1]; exact own1 rfl rfl (Nat.le_refl _)
  have HB1 : Hid (Below w.heap.size w W1) := by rw [hW1]; exact belA (Below.refl _ _) _
  go_upto_region 4 with (first
    | (go_at_call 22; refine HD.out.mono ?_; rintro e w1 ⟨rfl, rfl⟩))
  rw [← hW1]
  clear hW1
  go_loopg [0, 4] (if k < 94 then 0 else 1) (fun g s0 s4 wr => ∃ (m : Nat) (l : List UInt8) (a : Option Addr) (c : Nat), s0 = .int .i64 m ∧ s4 = .slice a l.length c ∧ g = (if m < 94 then 0 else 1) ∧ Hid (m < 4096 ∧ l.length < 3) ∧ Hid (codeL k = l ++ tailL m) ∧ Hid (Ob w.heap.size wr a l.length c l) ∧ Hid (Below w.heap.size w wr))
  case atStart => exact ⟨k, [z0], _, 1, rfl, rfl, rfl, ⟨HK.out, by show 1 < 3; decide⟩, HT.out, HO1.out, HB1.out⟩
  case round =>
    obtain ⟨m, l, a, c, rfl, rfl, rfl, HM, HC, HO, HB⟩ := hrel
    obtain ⟨wx, hwx⟩ : ∃ wx, wx = wr := ⟨_, rfl⟩
    rw [← hwx] at HO HB ⊢
    clear hwx
    by_cases hm : m < 94
    · have hm' : ¬ (94 : Int) ≤ (m : Int) := by omega
      have HF : Hid (codeL k = l) := by show _ = _; rw [HC.out]; unfold tailL; rw [if_pos hm, List.append_nil]
      have hconv := conv_own HO.out.o rfl
      clear hm
      go_wp2_with fail
      go_ret2
      rw [HE.out.1, HE.out.2, HF.out]
      exact ⟨rfl, HB.out⟩
    · have hm' : (94 : Int) ≤ (m : Int) := by omega
      have HM9 : Hid (94 ≤ m) := by show 94 ≤ m; omega
      obtain ⟨j, hj⟩ : ∃ j, j = m / 94 - 1 := ⟨_, rfl⟩
      have hj2 : wrap64 (wrap64 ((m : Int) / 94) - 1) = (j : Int) := by have := HM.out; unfold wrap64; omega
      have HJ : Hid (j < 94) := by have := HM.out; show j < 94; omega
      have HC2 : Hid (codeL k = (l ++ [by8 (33 + j % 94)]) ++ tailL j) := by
        show _ = _
        rw [HC.out]
        unfold tailL
        rw [if_neg hm, if_pos HJ.out, hj, List.append_nil]
      have HD2 := hidV (digit_c j wx (by have := HJ.out; omega))
      clear hm hj
      obtain ⟨z1, hz1⟩ : ∃ z, z = by8 (33 + j % 94) := ⟨_, rfl⟩
      rw [← hz1] at HC2 HD2
      clear hz1
      go_upto_region 6 with fail
      rw [hj2]
      clear hj2
      go_wp2_with (first
        | (go_at_call 22; refine HD2.out.mono ?_; rintro e w3 ⟨rfl, rfl⟩)
        | (at_builtin; refine app_byte rfl _ _ rfl w.heap.size a l.length c l z1 _ rfl rfl HO.out rfl (by have := HM.out; omega) HB.out.size ?_; intro a2 n2 c2 w2 HO2 HN2 hb2 hg2; have HO2' := hidV HO2; have HB2 := hidV hb2; clear HO2 hb2 hg2))
      have HO3 : Hid (Ob w.heap.size w2 a2 (l ++ [z1]).length c2 (l ++ [z1])) := by have h := HO2'.out; have e := h.e; subst e; exact h
      have HN3 : Hid (n2 = (l ++ [z1]).length) := HO2'.out.e
      have HM3 : Hid (j < 4096 ∧ (l ++ [z1]).length < 3) := by
        refine ⟨by have := HJ.out; omega, ?_⟩
        have h := congrArg List.length HC2.out
        have := (codeL_len k).2
        rw [List.length_append] at h
        omega
      go_roundg 0
      case measure => first | decide | (rw [if_neg (by have := HM9.out; omega)]; decide)
      case rel => exact ⟨j, l ++ [z1], a2, c2, rfl, by rw [HN3.out], (if_pos HJ.out).symm, HM3.out, HC2.out, HO3.out, HB.out.trans HB2.out⟩
theorem codeK_c (k : Nat) (w : World) (hk : k < 4096) : Calls Tryd.prog 13 #[.int .i64 k] w fun e w' => e = .returned (.tuple #[.string (S (codeL k)), .int .i64 0]) ∧ Below w.heap.size w w' := by
  have h := codeW_c k w (by omega) (by omega)
  have q : okN (k : Int) = true := decide_eq_true (by omega)
  unfold cdT cdE at h
  rw [q, if_pos rfl, if_pos rfl] at h
  exact h
theorem lineT2 (a c : ByteArray) : lineT [a, c] = L a ++ (L c ++ [10]) := by simp [lineT, flatB]
theorem lineT4 (a c d e : ByteArray) : lineT [a, c, d, e] = L a ++ (L c ++ (L d ++ (L e ++ [10]))) := by simp [lineT, flatB]
theorem L98 : L (⟨#[98]⟩ : ByteArray) = [98] := rfl
theorem L32 : L (⟨#[32]⟩ : ByteArray) = [32] := rfl
set_option maxHeartbeats 2000000 in
theorem value_c (b : Nat) (l : List UInt8) (k : Nat) (v : ByteArray) (w : World) (h : Bu b w l) (hk : k < 4096) (hv : v.size ≤ 256) (hl : l.length ≤ maxO) :
    Calls Tryd.prog 41 #[.pointer (some ⟨b, 0, none⟩), .int .i64 k, .string v] w fun e w' => Ln b w (l ++ valL v k) e w' := by
  have HU := hidV h
  have HC := hidV (codeK_c k w hk)
  have HLl := hidV hl
  have hq : (S (codeL k)).size ≤ 2 := by rw [size_S]; exact (codeL_len k).2
  have HLq : Hid (L (S (codeL k)) = codeL k) := L_S _
  have HV : Hid (valL v k = if v.size = 1 then L v ++ codeL k ++ [10] else 98 :: (L v ++ 32 :: (codeL k ++ [10]))) := rfl
  have HVs := hidV hv
  obtain ⟨t, ht⟩ : ∃ t, t = l ++ valL v k := ⟨_, rfl⟩
  rw [← ht]
  have HT := hidV ht
  obtain ⟨q, hqe⟩ : ∃ q, q = S (codeL k) := ⟨_, rfl⟩
  rw [← hqe] at HC hq HLq
  have HQs := hidV hq
  clear ht hqe hq h hk hl hv
  by_cases h1 : v.size = 1
  · have h1' : ((v.size : Int) == 1) = true := by rw [beq_iff_eq]; omega
    have HT2 : Hid (t = l ++ lineT [v, q]) := by show _ = _; rw [HT.out, HV.out, if_pos h1, lineT2, HLq.out, List.append_assoc]
    have HS : Hid (∀ s ∈ [v, q], s.size ≤ 100000) := by
      intro s hs
      have := HVs.out; have := HQs.out
      simp at hs
      rcases hs with rfl | rfl <;> omega
    clear h1
    by_cases hlen : t.length ≤ maxO
    · have HP : Hid (∀ W, Bu b W l → Calls Tryd.prog 39 #[.pointer (some ⟨b, 0, none⟩), .slice (some ⟨W.heap.size, 0, none⟩) 2 2] (W.alloc (.cells #[.string v, .string q] 9)) fun e w' => e = .returned (.tuple #[]) ∧ Bu b w' t ∧ Kb b W w') := fun W hW => put_ok b l [v, q] t 2 _ W rfl HT2.out rfl hW hlen (by decide) HS.out
      have HQ := hidV hlen
      clear hlen
      go_enter Tryd.func41, Tryd.ntmps41
      go_wp2_with (first
        | (go_at_call 13; refine HC.out.mono ?_; rintro e w1 ⟨rfl, hb1⟩; have HU1 := hidV (HU.out.below hb1); have HB1 := hidV hb1; clear hb1)
        | (go_at_call 39; refine (HP.out _ HU1.out).mono ?_; rintro e w2 ⟨rfl, hu2, hk2⟩))
      go_end0
      exact Ln.live ((Kb.of HB1.out (Nat.le_of_lt HU.out.lt)).trans hk2) hu2 HQ.out
    · have HQ : Hid (maxO < t.length) := by show maxO < _; omega
      have HP : Hid (∀ W, Bu b W l → Calls Tryd.prog 39 #[.pointer (some ⟨b, 0, none⟩), .slice (some ⟨W.heap.size, 0, none⟩) 2 2] (W.alloc (.cells #[.string v, .string q] 9)) fun e w' => e = .panicked pnV ∧ Kb b W w') := fun W hW => put_no b l [v, q] t 2 _ W rfl HT2.out rfl hW HLl.out HQ.out (by decide) HS.out
      clear hlen
      go_enter Tryd.func41, Tryd.ntmps41
      go_wp2_with (first
        | (go_at_call 13; refine HC.out.mono ?_; rintro e w1 ⟨rfl, hb1⟩; have HU1 := hidV (HU.out.below hb1); have HB1 := hidV hb1; clear hb1)
        | (go_at_call 39; refine (HP.out _ HU1.out).mono ?_; rintro e w2 ⟨rfl, hk2⟩))
      have HD := Ln.dead [] ((Kb.of HB1.out (Nat.le_of_lt HU.out.lt)).trans hk2) HQ.out
      rw [List.append_nil] at HD
      exact ⟨rfl, HD⟩
  · have h1' : ((v.size : Int) == 1) = false := by rw [beq_eq_false_iff_ne]; omega
    have HT2 : Hid (t = l ++ lineT [⟨#[98]⟩, v, ⟨#[32]⟩, q]) := by show _ = _; rw [HT.out, HV.out, if_neg h1, lineT4, HLq.out, L98, L32]; rfl
    have HS : Hid (∀ s ∈ [(⟨#[98]⟩ : ByteArray), v, ⟨#[32]⟩, q], s.size ≤ 100000) := by
      intro s hs
      have := HVs.out; have := HQs.out
      simp at hs
      rcases hs with rfl | rfl | rfl | rfl
      · show (1 : Nat) ≤ _; decide
      · omega
      · show (1 : Nat) ≤ _; decide
      · omega
    clear h1
    by_cases hlen : t.length ≤ maxO
    · have HP : Hid (∀ W, Bu b W l → Calls Tryd.prog 39 #[.pointer (some ⟨b, 0, none⟩), .slice (some ⟨W.heap.size, 0, none⟩) 4 4] (W.alloc (.cells #[.string ⟨#[98]⟩, .string v, .string ⟨#[32]⟩, .string q] 9)) fun e w' => e = .returned (.tuple #[]) ∧ Bu b w' t ∧ Kb b W w') := fun W hW => put_ok b l _ t 4 _ W rfl HT2.out rfl hW hlen (by decide) HS.out
      have HQ := hidV hlen
      clear hlen
      go_enter Tryd.func41, Tryd.ntmps41
      go_wp2_with (first
        | (go_at_call 13; refine HC.out.mono ?_; rintro e w1 ⟨rfl, hb1⟩; have HU1 := hidV (HU.out.below hb1); have HB1 := hidV hb1; clear hb1)
        | (go_at_call 39; refine (HP.out _ HU1.out).mono ?_; rintro e w2 ⟨rfl, hu2, hk2⟩))
      go_end0
      exact Ln.live ((Kb.of HB1.out (Nat.le_of_lt HU.out.lt)).trans hk2) hu2 HQ.out
    · have HQ : Hid (maxO < t.length) := by show maxO < _; omega
      have HP : Hid (∀ W, Bu b W l → Calls Tryd.prog 39 #[.pointer (some ⟨b, 0, none⟩), .slice (some ⟨W.heap.size, 0, none⟩) 4 4] (W.alloc (.cells #[.string ⟨#[98]⟩, .string v, .string ⟨#[32]⟩, .string q] 9)) fun e w' => e = .panicked pnV ∧ Kb b W w') := fun W hW => put_no b l _ t 4 _ W rfl HT2.out rfl hW HLl.out HQ.out (by decide) HS.out
      clear hlen
      go_enter Tryd.func41, Tryd.ntmps41
      go_wp2_with (first
        | (go_at_call 13; refine HC.out.mono ?_; rintro e w1 ⟨rfl, hb1⟩; have HU1 := hidV (HU.out.below hb1); have HB1 := hidV hb1; clear hb1)
        | (go_at_call 39; refine (HP.out _ HU1.out).mono ?_; rintro e w2 ⟨rfl, hk2⟩))
      have HD := Ln.dead [] ((Kb.of HB1.out (Nat.le_of_lt HU.out.lt)).trans hk2) HQ.out
      rw [List.append_nil] at HD
      exact ⟨rfl, HD⟩
end Go.Proofs.YtfcongggmjijfaaDoor
