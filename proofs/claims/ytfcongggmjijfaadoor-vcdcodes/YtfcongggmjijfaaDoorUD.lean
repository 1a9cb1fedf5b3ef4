/- Layer 19 of the program: first values. -/
import Derived.Test.YtfcongggmjijfaaDoorUC
namespace Go.Proofs.YtfcongggmjijfaaDoor
set_option maxRecDepth 100000
open Go.RowKit Lg Nl Go.Maps Wf Vd
set_option linter.unusedVariables false
set_option linter.unusedSimpArgs false

theorem Ln.dead2 {b : Nat} {w w' : World} {t t' : List UInt8} (k : Kb b w w') (ht : maxO < t.length) (hle : t.length ≤ t'.length) : Ln b w t' (.panicked pnV) w' := ⟨k, Or.inr ⟨by omega, rfl⟩⟩
theorem ln_ok {b : Nat} {w w' : World} {t : List UInt8} {e : Ending} (h : Ln b w t e w') (ht : t.length ≤ maxO) : e = .returned (.tuple #[]) ∧ Bu b w' t ∧ Kb b w w' := by
  obtain ⟨hk, ⟨h1, h2, h3⟩ | ⟨h1, h2⟩⟩ := h
  · exact ⟨h2, h3, hk⟩
  · omega
theorem ln_no {b : Nat} {w w' : World} {t : List UInt8} {e : Ending} (h : Ln b w t e w') (ht : maxO < t.length) : e = .panicked pnV ∧ Kb b w w' := by
  obtain ⟨hk, ⟨h1, h2, h3⟩ | ⟨h1, h2⟩⟩ := h
  · omega
  · exact ⟨h2, hk⟩
/-- a call that puts a text, where there is room; where there is none -/
theorem calls_ok {f : FuncId} {args : Array Value} {b : Nat} {w : World} {t : List UInt8} (h : Calls Tryd.prog f args w fun e w' => Ln b w t e w') (ht : t.length ≤ maxO) : Calls Tryd.prog f args w fun e w' => e = .returned (.tuple #[]) ∧ Bu b w' t ∧ Kb b w w' := h.mono fun e w' hl => ln_ok hl ht
theorem calls_no {f : FuncId} {args : Array Value} {b : Nat} {w : World} {t : List UInt8} (h : Calls Tryd.prog f args w fun e w' => Ln b w t e w') (ht : maxO < t.length) : Calls Tryd.prog f args w fun e w' => e = .panicked pnV ∧ Kb b w w' := h.mono fun e w' hl => ln_no hl ht
def dumpT : List UInt8 := [36, 100, 117, 109, 112, 118, 97, 114, 115, 10]
theorem line1 (a : ByteArray) : lineT [a] = L a ++ [10] := by simp [lineT, flatB]
theorem firstL_mono (x : Wv) : ∀ (k i : Nat), (firstL x i).length ≤ (firstL x (i + k)).length
  | 0, i => Nat.le_refl _
  | k + 1, i => by
    rw [← Nat.add_assoc, firstL_succ, List.length_append]
    have := firstL_mono x k i
    omega
theorem firstL_le (x : Wv) {i n : Nat} (h : i ≤ n) : (firstL x i).length ≤ (firstL x n).length := by
  have := firstL_mono x (n - i) i
  rwa [Nat.add_sub_cancel' h] at this
/-- what stands of an elder world, behind a call of the writer -/
theorem Kb.old {b : Nat} {w0 w w' : World} (h0 : Below w0.heap.size w0 w) (hb : w0.heap.size ≤ b) (k : Kb b w w') : Below w0.heap.size w0 w' := h0.trans (k.low.mono hb)
def valsT (x : Wv) : List UInt8 := dumpT ++ (firstL x x.fi.length ++ doneT)
set_option maxHeartbeats 4000000 in
set_option maxRecDepth 100000 in
theorem values_c (x : Wv) (b : Nat) (l : List UInt8) (vf : Value) (w0 w : World) (hx : StrAt w0 vf x.fi) (h0 : Below w0.heap.size w0 w) (hb : w0.heap.size ≤ b) (h : Bu b w l) (hl : l.length ≤ maxO) (hn : x.fi.length ≤ 4096) (hs : ∀ i, i < x.fi.length → (sA x.fi i).size ≤ 256) :
    Calls Tryd.prog 28 #[.pointer (some ⟨b, 0, none⟩), vf] w fun e w' => Ln b w (l ++ valsT x) e w' := by
  have HX := hidV hx
  obtain ⟨af, cf, rfl, _, _⟩ := hx
  have H0 := hidV h0
  have HBb := hidV hb
  have HU := hidV h
  have HLl := hidV hl
  have HN := hidV hn
  have HS := hidV hs
  have HVt : Hid (valsT x = dumpT ++ (firstL x x.fi.length ++ doneT)) := rfl
  clear h0 hb h hl hn hs
  obtain ⟨T, hT⟩ : ∃ T, T = l ++ valsT x := ⟨_, rfl⟩
  rw [← hT]
  have HT := hidV hT
  clear hT
  obtain ⟨t1, ht1⟩ : ∃ t, t = l ++ dumpT := ⟨_, rfl⟩
  have HT1 : Hid (t1 = l ++ lineT [⟨#[36, 100, 117, 109, 112, 118, 97, 114, 115]⟩]) := by show _ = _; rw [ht1]; rfl
  have HL1 : Hid (t1.length ≤ T.length) := by show _ ≤ _; rw [ht1, HT.out, HVt.out]; simp only [List.length_append]; omega
  have HS1 : Hid (∀ s ∈ [(⟨#[36, 100, 117, 109, 112, 118, 97, 114, 115]⟩ : ByteArray)], s.size ≤ 100000) := by intro s hs; simp at hs; subst hs; show (9 : Nat) ≤ _; decide
  by_cases hq1 : t1.length ≤ maxO
  case neg =>
    have HQ : Hid (maxO < t1.length) := by show maxO < _; omega
    have HP : Hid (∀ W, Bu b W l → Calls Tryd.prog 39 #[.pointer (some ⟨b, 0, none⟩), .slice (some ⟨W.heap.size, 0, none⟩) 1 1] (W.alloc (.cells #[.string ⟨#[36, 100, 117, 109, 112, 118, 97, 114, 115]⟩] 9)) fun e w' => e = .panicked pnV ∧ Kb b W w') := fun W hW => put_no b l _ t1 1 _ W rfl HT1.out rfl hW HLl.out HQ.out (by decide) HS1.out
    clear hq1 ht1
    go_enter Tryd.func28, Tryd.ntmps28
    go_wp2_with (first
      | (go_at_call 39; refine (HP.out _ HU.out).mono ?_; rintro e w2 ⟨rfl, hk2⟩))
    exact ⟨rfl, Ln.dead2 hk2 HQ.out HL1.out⟩
  have HQ1 := hidV hq1
  have HP : Hid (∀ W, Bu b W l → Calls Tryd.prog 39 #[.pointer (some ⟨b, 0, none⟩), .slice (some ⟨W.heap.size, 0, none⟩) 1 1] (W.alloc (.cells #[.string ⟨#[36, 100, 117, 109, 112, 118, 97, 114, 115]⟩] 9)) fun e w' => e = .returned (.tuple #[]) ∧ Bu b w' t1 ∧ Kb b W w') := fun W hW => put_ok b l _ t1 1 _ W rfl HT1.out rfl hW HQ1.out (by decide) HS1.out
  have HT1' := hidV ht1
  clear hq1 ht1
  go_enter Tryd.func28, Tryd.ntmps28
  go_upto_region 1 with (first
    | (go_at_call 39; refine (HP.out _ HU.out).mono ?_; rintro e w2 ⟨rfl, hu2, hk2⟩))
  have HU2 := hidV hu2
  have HK2 := hidV hk2
  clear hu2 hk2 HP
  go_upto_region 2 with fail
  go_loopg [11] x.fi.length (fun g s wr => ∃ i : Nat, i ≤ x.fi.length ∧ g = x.fi.length - i ∧ s = .int .i64 i ∧ Hid (Bu b wr (l ++ (dumpT ++ firstL x i))) ∧ Hid ((l ++ (dumpT ++ firstL x i)).length ≤ maxO) ∧ Hid (Kb b w wr))
  case atStart => exact ⟨0, Nat.zero_le _, rfl, rfl, by show Bu _ _ _; rw [show firstL x 0 = [] from rfl, List.append_nil, ← HT1'.out]; exact HU2.out, by show _ ≤ _; rw [show firstL x 0 = [] from rfl, List.append_nil, ← HT1'.out]; exact HQ1.out, HK2.out⟩
  case round =>
    obtain ⟨i, hi, rfl, rfl, HB, HLe, HK⟩ := hrel
    obtain ⟨wx, hwx⟩ : ∃ wx, wx = wr := ⟨_, rfl⟩
    rw [← hwx] at HB HK ⊢
    clear hwx
    by_cases hin : i < x.fi.length
    · have hA := HX.out.below (Kb.old H0.out HBb.out HK.out)
      obtain ⟨gf, of, rfl, hgf, ef⟩ := hA.at_ i hin
      have i0 : (0 : Int) ≤ (i : Int) := by omega
      have i1 : (i : Int) < (x.fi.length : Int) := by omega
      have HI : Hid (i < x.fi.length ∧ i < 4096) := ⟨hin, by have := HN.out; omega⟩
      have HSz : Hid ((sA x.fi i).size ≤ 256) := HS.out i hin
      have HF : Hid (firstL x (i + 1) = firstL x i ++ valL (sA x.fi i) i) := firstL_succ x i
      clear hin hA
      obtain ⟨s, hs⟩ : ∃ s, s = sA x.fi i := ⟨_, rfl⟩
      rw [← hs] at ef HSz HF
      clear hs
      obtain ⟨t2, ht2⟩ : ∃ t, t = l ++ (dumpT ++ firstL x (i + 1)) := ⟨_, rfl⟩
      have HT2 := hidV ht2
      have HV : Hid (Calls Tryd.prog 41 #[.pointer (some ⟨b, 0, none⟩), .int .i64 i, .string s] wx fun e w' => Ln b wx t2 e w') := by
        have h := value_c b (l ++ (dumpT ++ firstL x i)) i s wx HB.out HI.out.2 HSz.out HLe.out
        have e : l ++ (dumpT ++ firstL x i) ++ valL s i = t2 := by rw [ht2, HF.out]; simp only [List.append_assoc]
        rw [e] at h
        exact h
      have HL2 : Hid (t2.length ≤ T.length) := by
        show _ ≤ _
        rw [ht2, HT.out, HVt.out]
        simp only [List.length_append]
        have := firstL_le x (show i + 1 ≤ x.fi.length by have := HI.out; omega)
        omega
      clear ht2
      by_cases hq2 : t2.length ≤ maxO
      · have HC := hidV (calls_ok HV.out hq2)
        have HQ2 := hidV hq2
        clear hq2
        go_wp2_with (first
          | (go_at_call 41; refine HC.out.mono ?_; rintro e w3 ⟨rfl, hu3, hk3⟩; have HU3 := hidV hu3; have HK3 := hidV hk3; clear hu3 hk3))
        go_roundg (x.fi.length - (i + 1))
        case measure => have := HI.out; omega
        case rel => exact ⟨i + 1, HI.out.1, rfl, wrap_succ (n := 4096) HI.out.2 (by decide), by show Bu _ _ _; rw [← HT2.out]; exact HU3.out, by show _ ≤ _; rw [← HT2.out]; exact HQ2.out, HK.out.trans HK3.out⟩
      · have HQ2 : Hid (maxO < t2.length) := by show maxO < _; omega
        have HC := hidV (calls_no HV.out HQ2.out)
        clear hq2
        go_wp2_with (first
          | (go_at_call 41; refine HC.out.mono ?_; rintro e w3 ⟨rfl, hk3⟩; have HK3 := hidV hk3; clear hk3))
        exact ⟨rfl, Ln.dead2 (HK.out.trans HK3.out) HQ2.out HL2.out⟩
    · have hie : i = x.fi.length := by omega
      have HB2 : Hid (Bu b wx (l ++ (dumpT ++ firstL x x.fi.length))) := by show Bu _ _ _; rw [← hie]; exact HB.out
      have HLe2 : Hid ((l ++ (dumpT ++ firstL x x.fi.length)).length ≤ maxO) := by show _ ≤ _; rw [← hie]; exact HLe.out
      have i5 : ¬ (i : Int) < (x.fi.length : Int) := by omega
      clear hin hie HB HLe
      obtain ⟨t2, ht2⟩ : ∃ t, t = l ++ (dumpT ++ firstL x x.fi.length) := ⟨_, rfl⟩
      rw [← ht2] at HB2 HLe2
      have HTT : Hid (T = t2 ++ lineT [⟨#[36, 101, 110, 100]⟩]) := by show _ = _; rw [HT.out, HVt.out, ht2]; simp only [List.append_assoc]; rfl
      have HS2 : Hid (∀ s ∈ [(⟨#[36, 101, 110, 100]⟩ : ByteArray)], s.size ≤ 100000) := by intro s hs; simp at hs; subst hs; show (4 : Nat) ≤ _; decide
      clear ht2
      by_cases hq2 : T.length ≤ maxO
      · have HQ2 := hidV hq2
        have HP : Hid (∀ W, Bu b W t2 → Calls Tryd.prog 39 #[.pointer (some ⟨b, 0, none⟩), .slice (some ⟨W.heap.size, 0, none⟩) 1 1] (W.alloc (.cells #[.string ⟨#[36, 101, 110, 100]⟩] 9)) fun e w' => e = .returned (.tuple #[]) ∧ Bu b w' T ∧ Kb b W w') := fun W hW => put_ok b t2 _ T 1 _ W rfl HTT.out rfl hW HQ2.out (by decide) HS2.out
        clear hq2
        go_wp2_with (first
          | (go_at_call 39; refine (HP.out _ HB2.out).mono ?_; rintro e w3 ⟨rfl, hu3, hk3⟩))
        go_end0
        exact Ln.live (HK.out.trans hk3) hu3 HQ2.out
      · have HQ2 : Hid (maxO < T.length) := by show maxO < _; omega
        have HP : Hid (∀ W, Bu b W t2 → Calls Tryd.prog 39 #[.pointer (some ⟨b, 0, none⟩), .slice (some ⟨W.heap.size, 0, none⟩) 1 1] (W.alloc (.cells #[.string ⟨#[36, 101, 110, 100]⟩] 9)) fun e w' => e = .panicked pnV ∧ Kb b W w') := fun W hW => put_no b t2 _ T 1 _ W rfl HTT.out rfl hW HLe2.out HQ2.out (by decide) HS2.out
        clear hq2
        go_wp2_with (first
          | (go_at_call 39; refine (HP.out _ HB2.out).mono ?_; rintro e w3 ⟨rfl, hk3⟩))
        exact ⟨rfl, Ln.dead2 (HK.out.trans hk3) HQ2.out (Nat.le_refl _)⟩
end Go.Proofs.YtfcongggmjijfaaDoor
