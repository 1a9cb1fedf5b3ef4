/- Texts UD UE, joined: what each part says stands ahead of it. -/
import Derived.Test.YtodpljgajjcdoaaGreatDoorGUa
/- Layer 19 of the program: first values. -/
namespace Go.Proofs.YtodpljgajjcdoaaGreatDoor
set_option maxRecDepth 100000
open Go.RowKit Lg Nl Go.Maps Wf Vd
set_option linter.unusedVariables false
set_option linter.unusedSimpArgs false

theorem Ln.dead2 {b : Nat} {w w' : World} {t t' : List UInt8} (k : Kb b w w') (ht : maxO < t.length) (hle : t.length ≤ t'.length) : Ln b w t' (.panicked pnV) w' := ⟨k, Or.inr ⟨by omega, rfl⟩⟩
theorem ln_ok {b : Nat} {w w' : World} {t : List UInt8} {e : Ending} (h : Ln b w t e w') (ht : t.length ≤ maxO) : e = .returned (.tuple #[]) ∧ Bu b w' t ∧ Kb b w w' := by
  obtain ⟨hk, ⟨h1, h2, h3⟩ | ⟨h1, h2⟩⟩ := h
  · exact ⟨h2, h3, hk⟩
  · omega
theorem ln_no {b : Nat} {w w' : World} {t : List UInt8} {e : Ending} (h : Ln b w t e w') (ht : maxO < t.length) : e = .panicked pnV ∧ Kb b w w' := by
  obtain ⟨hk, ⟨h1, h2, h3⟩ | ⟨h1, h2⟩⟩ := h
  · omega
  · exact ⟨h2, hk⟩
/-- a call that puts a text, where there is room; where there is none -/
theorem calls_ok {f : FuncId} {args : Array Value} {b : Nat} {w : World} {t : List UInt8} (h : Calls Tryz.prog f args w fun e w' => Ln b w t e w') (ht : t.length ≤ maxO) : Calls Tryz.prog f args w fun e w' => e = .returned (.tuple #[]) ∧ Bu b w' t ∧ Kb b w w' := h.mono fun e w' hl => ln_ok hl ht
theorem calls_no {f : FuncId} {args : Array Value} {b : Nat} {w : World} {t : List UInt8} (h : Calls Tryz.prog f args w fun e w' => Ln b w t e w') (ht : maxO < t.length) : Calls Tryz.prog f args w fun e w' => e = .panicked pnV ∧ Kb b w w' := h.mono fun e w' hl => ln_no hl ht
def dumpT : List UInt8 := [36, 100, 117, 109, 112, 118, 97, 114, 115, 10]
theorem line1 (a : ByteArray) : lineT [a] = L a ++ [10] := by simp [lineT, flatB]
theorem firstL_mono (x : Wv) : ∀ (k i : Nat), (firstL x i).length ≤ (firstL x (i + k)).length
  | 0, i => Nat.le_refl _
  | k + 1, i => by
    rw [← Nat.add_assoc, firstL_succ, List.length_append]
    have := firstL_mono x k i
    omega
theorem firstL_le (x : Wv) {i n : Nat} (h : i ≤ n) : (firstL x i).length ≤ (firstL x n).length := by
  have := firstL_mono x (n - i) i
  rwa [Nat.add_sub_cancel' h] at this
/-- what stands of an elder world, behind a call of the writer -/
theorem Kb.old {b : Nat} {w0 w w' : World} (h0 : Below w0.heap.size w0 w) (hb : w0.heap.size ≤ b) (k : Kb b w w') : Below w0.heap.size w0 w' := h0.trans (k.low.mono hb)
def valsT (x : Wv) : List UInt8 := dumpT ++ (firstL x x.fi.length ++ doneT)
set_option maxHeartbeats 4000000 in
set_option maxRecDepth 100000 in
theorem values_c (x : Wv) (b : Nat) (l : List UInt8) (vf : Value) (w0 w : World) (hx : StrAt w0 vf x.fi) (h0 : Below w0.heap.size w0 w) (hb : w0.heap.size ≤ b) (h : Bu b w l) (hl : l.length ≤ maxO) (hn : x.fi.length ≤ 4096) (hs : ∀ i, i < x.fi.length → (sA x.fi i).size ≤ 256) :
    Calls Tryz.prog 32 #[.pointer (some ⟨b, 0, none⟩), vf] w fun e w' => Ln b w (l ++ valsT x) e w' := by
  have HX := hidV hx
  obtain ⟨af, cf, rfl, _, _⟩ := hx
  have H0 := hidV h0
  have HBb := hidV hb
  have HU := hidV h
  have HLl := hidV hl
  have HN := hidV hn
  have HS := hidV hs
  have HVt : Hid (valsT x = dumpT ++ (firstL x x.fi.length ++ doneT)) := rfl
  clear h0 hb h hl hn hs
  obtain ⟨T, hT⟩ : ∃ T, T = l ++ valsT x := ⟨_, rfl⟩
  rw [← hT]
  have HT := hidV hT
  clear hT
  obtain ⟨t1, ht1⟩ : ∃ t, t = l ++ dumpT := ⟨_, rfl⟩
  have HT1 : Hid (t1 = l ++ lineT [⟨#[36, 100, 117, 109, 112, 118, 97, 114, 115]⟩]) := by show _ = _; rw [ht1]; rfl
  have HL1 : Hid (t1.length ≤ T.length) := by show _ ≤ _; rw [ht1, HT.out, HVt.out]; simp only [List.length_append]; omega
  have HS1 : Hid (∀ s ∈ [(⟨#[36, 100, 117, 109, 112, 118, 97, 114, 115]⟩ : ByteArray)], s.size ≤ 100000) := by intro s hs; simp at hs; subst hs; show (9 : Nat) ≤ _; decide
  by_cases hq1 : t1.length ≤ maxO
  case neg =>
    have HQ : Hid (maxO < t1.length) := by show maxO < _; omega
    have HP : Hid (∀ W, Bu b W l → Calls Tryz.prog 51 #[.pointer (some ⟨b, 0, none⟩), .slice (some ⟨W.heap.size, 0, none⟩) 1 1] (W.alloc (.cells #[.string ⟨#[36, 100, 117, 109, 112, 118, 97, 114, 115]⟩] 9)) fun e w' => e = .panicked pnV ∧ Kb b W w') := fun W hW => put_no b l _ t1 1 _ W rfl HT1.out rfl hW HLl.out HQ.out (by decide) HS1.out
    clear hq1 ht1
    go_enter Tryz.func32, Tryz.ntmps32
    go_wp2_with (first
      | (go_at_call 51; refine (HP.out _ HU.out).mono ?_; rintro e w2 ⟨rfl, hk2⟩))
    exact ⟨rfl, Ln.dead2 hk2 HQ.out HL1.out⟩
  have HQ1 := hidV hq1
  have HP : Hid (∀ W, Bu b W l → Calls Tryz.prog 51 #[.pointer (some ⟨b, 0, none⟩), .slice (some ⟨W.heap.size, 0, none⟩) 1 1] (W.alloc (.cells #[.string ⟨#[36, 100, 117, 109, 112, 118, 97, 114, 115]⟩] 9)) fun e w' => e = .returned (.tuple #[]) ∧ Bu b w' t1 ∧ Kb b W w') := fun W hW => put_ok b l _ t1 1 _ W rfl HT1.out rfl hW HQ1.out (by decide) HS1.out
  have HT1' := hidV ht1
  clear hq1 ht1
  go_enter Tryz.func32, Tryz.ntmps32
  go_upto_region 1 with (first
    | (go_at_call 51; refine (HP.out _ HU.out).mono ?_; rintro e w2 ⟨rfl, hu2, hk2⟩))
  have HU2 := hidV hu2
  have HK2 := hidV hk2
  clear hu2 hk2 HP
  go_upto_region 2 with fail
  go_loopg [11] x.fi.length (fun g s wr => ∃ i : Nat, i ≤ x.fi.length ∧ g = x.fi.length - i ∧ s = .int .i64 i ∧ Hid (Bu b wr (l ++ (dumpT ++ firstL x i))) ∧ Hid ((l ++ (dumpT ++ firstL x i)).length ≤ maxO) ∧ Hid (Kb b w wr))
  case atStart => exact ⟨0, Nat.zero_le _, rfl, rfl, by show Bu _ _ _; rw [show firstL x 0 = [] from rfl, List.append_nil, ← HT1'.out]; exact HU2.out, by show _ ≤ _; rw [show firstL x 0 = [] from rfl, List.append_nil, ← HT1'.out]; exact HQ1.out, HK2.out⟩
  case round =>
    obtain ⟨i, hi, rfl, rfl, HB, HLe, HK⟩ := hrel
    obtain ⟨wx, hwx⟩ : ∃ wx, wx = wr := ⟨_, rfl⟩
    rw [← hwx] at HB HK ⊢
    clear hwx
    by_cases hin : i < x.fi.length
    · have hA := HX.out.below (Kb.old H0.out HBb.out HK.out)
      obtain ⟨gf, of, rfl, hgf, ef⟩ := hA.at_ i hin
      have i0 : (0 : Int) ≤ (i : Int) := by omega
      have i1 : (i : Int) < (x.fi.length : Int) := by omega
      have HI : Hid (i < x.fi.length ∧ i < 4096) := ⟨hin, by have := HN.out; omega⟩
      have HSz : Hid ((sA x.fi i).size ≤ 256) := HS.out i hin
      have HF : Hid (firstL x (i + 1) = firstL x i ++ valL (sA x.fi i) i) := firstL_succ x i
      clear hin hA
      obtain ⟨s, hs⟩ : ∃ s, s = sA x.fi i := ⟨_, rfl⟩
      rw [← hs] at ef HSz HF
      clear hs
      obtain ⟨t2, ht2⟩ : ∃ t, t = l ++ (dumpT ++ firstL x (i + 1)) := ⟨_, rfl⟩
      have HT2 := hidV ht2
      have HV : Hid (Calls Tryz.prog 52 #[.pointer (some ⟨b, 0, none⟩), .int .i64 i, .string s] wx fun e w' => Ln b wx t2 e w') := by
        have h := value_c b (l ++ (dumpT ++ firstL x i)) i s wx HB.out HI.out.2 HSz.out HLe.out
        have e : l ++ (dumpT ++ firstL x i) ++ valL s i = t2 := by rw [ht2, HF.out]; simp only [List.append_assoc]
        rw [e] at h
        exact h
      have HL2 : Hid (t2.length ≤ T.length) := by
        show _ ≤ _
        rw [ht2, HT.out, HVt.out]
        simp only [List.length_append]
        have := firstL_le x (show i + 1 ≤ x.fi.length by have := HI.out; omega)
        omega
      clear ht2
      by_cases hq2 : t2.length ≤ maxO
      · have HC := hidV (calls_ok HV.out hq2)
        have HQ2 := hidV hq2
        clear hq2
        go_wp2_with (first
          | (go_at_call 52; refine HC.out.mono ?_; rintro e w3 ⟨rfl, hu3, hk3⟩; have HU3 := hidV hu3; have HK3 := hidV hk3; clear hu3 hk3))
        go_roundg (x.fi.length - (i + 1))
        case measure => have := HI.out; omega
        case rel => exact ⟨i + 1, HI.out.1, rfl, wrap_succ (n := 4096) HI.out.2 (by decide), by show Bu _ _ _; rw [← HT2.out]; exact HU3.out, by show _ ≤ _; rw [← HT2.out]; exact HQ2.out, HK.out.trans HK3.out⟩
      · have HQ2 : Hid (maxO < t2.length) := by show maxO < _; omega
        have HC := hidV (calls_no HV.out HQ2.out)
        clear hq2
        go_wp2_with (first
          | (go_at_call 52; refine HC.out.mono ?_; rintro e w3 ⟨rfl, hk3⟩; have HK3 := hidV hk3; clear hk3))
        exact ⟨rfl, Ln.dead2 (HK.out.trans HK3.out) HQ2.out HL2.out⟩
    · have hie : i = x.fi.length := by omega
      have HB2 : Hid (Bu b wx (l ++ (dumpT ++ firstL x x.fi.length))) := by show Bu _ _ _; rw [← hie]; exact HB.out
      have HLe2 : Hid ((l ++ (dumpT ++ firstL x x.fi.length)).length ≤ maxO) := by show _ ≤ _; rw [← hie]; exact HLe.out
      have i5 : ¬ (i : Int) < (x.fi.length : Int) := by omega
      clear hin hie HB HLe
      obtain ⟨t2, ht2⟩ : ∃ t, t = l ++ (dumpT ++ firstL x x.fi.length) := ⟨_, rfl⟩
      rw [← ht2] at HB2 HLe2
      have HTT : Hid (T = t2 ++ lineT [⟨#[36, 101, 110, 100]⟩]) := by show _ = _; rw [HT.out, HVt.out, ht2]; simp only [List.append_assoc]; rfl
      have HS2 : Hid (∀ s ∈ [(⟨#[36, 101, 110, 100]⟩ : ByteArray)], s.size ≤ 100000) := by intro s hs; simp at hs; subst hs; show (4 : Nat) ≤ _; decide
      clear ht2
      by_cases hq2 : T.length ≤ maxO
      · have HQ2 := hidV hq2
        have HP : Hid (∀ W, Bu b W t2 → Calls Tryz.prog 51 #[.pointer (some ⟨b, 0, none⟩), .slice (some ⟨W.heap.size, 0, none⟩) 1 1] (W.alloc (.cells #[.string ⟨#[36, 101, 110, 100]⟩] 9)) fun e w' => e = .returned (.tuple #[]) ∧ Bu b w' T ∧ Kb b W w') := fun W hW => put_ok b t2 _ T 1 _ W rfl HTT.out rfl hW HQ2.out (by decide) HS2.out
        clear hq2
        go_wp2_with (first
          | (go_at_call 51; refine (HP.out _ HB2.out).mono ?_; rintro e w3 ⟨rfl, hu3, hk3⟩))
        go_end0
        exact Ln.live (HK.out.trans hk3) hu3 HQ2.out
      · have HQ2 : Hid (maxO < T.length) := by show maxO < _; omega
        have HP : Hid (∀ W, Bu b W t2 → Calls Tryz.prog 51 #[.pointer (some ⟨b, 0, none⟩), .slice (some ⟨W.heap.size, 0, none⟩) 1 1] (W.alloc (.cells #[.string ⟨#[36, 101, 110, 100]⟩] 9)) fun e w' => e = .panicked pnV ∧ Kb b W w') := fun W hW => put_no b t2 _ T 1 _ W rfl HTT.out rfl hW HLe2.out HQ2.out (by decide) HS2.out
        clear hq2
        go_wp2_with (first
          | (go_at_call 51; refine (HP.out _ HB2.out).mono ?_; rintro e w3 ⟨rfl, hk3⟩))
        exact ⟨rfl, Ln.dead2 (HK.out.trans hk3) HQ2.out (Nat.le_refl _)⟩
end Go.Proofs.YtodpljgajjcdoaaGreatDoor

/- Layer 19 of the program: the nets. -/
namespace Go.Proofs.YtodpljgajjcdoaaGreatDoor
set_option maxRecDepth 100000
open Go.RowKit Lg Nl Go.Maps Wf Vd
set_option linter.unusedVariables false
set_option linter.unusedSimpArgs false

def midU : List UInt8 := [36, 117, 112, 115, 99, 111, 112, 101, 32, 36, 101, 110, 100, 10, 36, 101, 110, 100, 100, 101, 102, 105, 110, 105, 116, 105, 111, 110, 115, 32, 36, 101, 110, 100, 10]
def netsT (x : Wv) : List UInt8 := headT ++ (varsL x x.nm.length ++ midU)
theorem varsL_mono (x : Wv) : ∀ (k i : Nat), (varsL x i).length ≤ (varsL x (i + k)).length
  | 0, i => Nat.le_refl _
  | k + 1, i => by
    rw [← Nat.add_assoc, varsL_succ, List.length_append]
    have := varsL_mono x k i
    omega
theorem varsL_le (x : Wv) {i n : Nat} (h : i ≤ n) : (varsL x i).length ≤ (varsL x n).length := by
  have := varsL_mono x (n - i) i
  rwa [Nat.add_sub_cancel' h] at this
theorem lineT7 (a b c d e f g : ByteArray) : lineT [a, b, c, d, e, f, g] = L a ++ (L b ++ (L c ++ (L d ++ (L e ++ (L f ++ (L g ++ [10])))))) := by simp [lineT, flatB]
theorem wvN8 : 27 ≠ 5 := by decide
set_option maxHeartbeats 8000000 in
set_option maxRecDepth 100000 in
theorem nets_c (x : Wv) (b : Nat) (vn vw vf vl : Value) (w0 w : World) (hx : StrAt w0 vn x.nm) (hxw : IntsAt w0 vw x.wd) (h0 : Below w0.heap.size w0 w) (hb : w0.heap.size ≤ b) (h : Bu b w []) (hm : Nice x) (hp : PowT w0) :
    Calls Tryz.prog 31 #[.pointer (some ⟨b, 0, none⟩), .agg #[vn, vw, vf, vl]] w fun e w' => Ln b w (netsT x) e w' := by
  have HX := hidV hx
  have HXw := hidV hxw
  obtain ⟨an, cn, rfl, _, _⟩ := hx
  obtain ⟨aw, cw, rfl, _, _⟩ := hxw
  have HBb := hidV hb
  have HM := hidV hm
  have HPw := hidV hp
  have HVt : Hid (netsT x = headT ++ (varsL x x.nm.length ++ midU)) := rfl
  obtain ⟨W0, hW0⟩ : ∃ W0, W0 = w.alloc (.cells #[.slice an x.nm.length cn, .slice aw x.wd.length cw, vf, vl] 27) := ⟨_, rfl⟩
  have HB0 : Hid (Below w.heap.size w W0) := by rw [hW0]; exact belA (Below.refl _ _) _
  have HX0 : Hid (W0.heap[w.heap.size]? = some (.cells #[.slice an x.nm.length cn, .slice aw x.wd.length cw, vf, vl] 27 (0, 0))) := by rw [hW0]; exact alAt rfl
  have HU : Hid (Bu b W0 []) := h.below HB0.out
  have H0 : Hid (Below w0.heap.size w0 W0) := h0.trans (HB0.out.mono (Nat.le_trans hb (Nat.le_of_lt h.lt)))
  have HKw : Hid (∀ W, Kb b W0 W → Kb b w W) := fun W hW => (Kb.of HB0.out (Nat.le_of_lt h.lt)).trans hW
  have HEb : Hid (w.heap.size ≠ b) := by have := h.lt; show _ ≠ _; omega
  clear h0 hb h hm hp
  obtain ⟨T, hT⟩ : ∃ T, T = netsT x := ⟨_, rfl⟩
  rw [← hT]
  have HT := hidV hT
  clear hT
  obtain ⟨t1, ht1⟩ : ∃ t, t = lineT [⟨#[36, 116, 105, 109, 101, 115, 99, 97, 108, 101, 32, 49, 32, 110, 115, 32, 36, 101, 110, 100]⟩] := ⟨_, rfl⟩
  have HT1 : Hid (t1 = [] ++ lineT [⟨#[36, 116, 105, 109, 101, 115, 99, 97, 108, 101, 32, 49, 32, 110, 115, 32, 36, 101, 110, 100]⟩]) := by show _ = _; rw [ht1]; rfl
  have HQ1 : Hid (t1.length ≤ maxO) := by show _ ≤ _; rw [ht1]; decide +kernel
  have HS1 : Hid (∀ s ∈ [(⟨#[36, 116, 105, 109, 101, 115, 99, 97, 108, 101, 32, 49, 32, 110, 115, 32, 36, 101, 110, 100]⟩ : ByteArray)], s.size ≤ 100000) := by intro s hs; simp at hs; subst hs; show (20 : Nat) ≤ _; decide
  have HP : Hid (∀ W, Bu b W [] → Calls Tryz.prog 51 #[.pointer (some ⟨b, 0, none⟩), .slice (some ⟨W.heap.size, 0, none⟩) 1 1] (W.alloc (.cells #[.string ⟨#[36, 116, 105, 109, 101, 115, 99, 97, 108, 101, 32, 49, 32, 110, 115, 32, 36, 101, 110, 100]⟩] 9)) fun e w' => e = .returned (.tuple #[]) ∧ Bu b w' t1 ∧ Kb b W w') := fun W hW => put_ok b [] _ t1 1 _ W rfl HT1.out rfl hW HQ1.out (by decide) HS1.out
  have HP1 := HP
  obtain ⟨t2, ht2⟩ : ∃ t, t = headT := ⟨_, rfl⟩
  have HT2 : Hid (t2 = t1 ++ lineT [⟨#[36, 115, 99, 111, 112, 101, 32, 109, 111, 100, 117, 108, 101, 32, 116, 111, 112, 32, 36, 101, 110, 100]⟩]) := by show _ = _; rw [ht2, ht1]; rfl
  have HQ2 : Hid (t2.length ≤ maxO) := by show _ ≤ _; rw [ht2]; decide +kernel
  have HS2 : Hid (∀ s ∈ [(⟨#[36, 115, 99, 111, 112, 101, 32, 109, 111, 100, 117, 108, 101, 32, 116, 111, 112, 32, 36, 101, 110, 100]⟩ : ByteArray)], s.size ≤ 100000) := by intro s hs; simp at hs; subst hs; show (22 : Nat) ≤ _; decide
  clear HP
  have HP : Hid (∀ W, Bu b W t1 → Calls Tryz.prog 51 #[.pointer (some ⟨b, 0, none⟩), .slice (some ⟨W.heap.size, 0, none⟩) 1 1] (W.alloc (.cells #[.string ⟨#[36, 115, 99, 111, 112, 101, 32, 109, 111, 100, 117, 108, 101, 32, 116, 111, 112, 32, 36, 101, 110, 100]⟩] 9)) fun e w' => e = .returned (.tuple #[]) ∧ Bu b w' t2 ∧ Kb b W w') := fun W hW => put_ok b t1 _ t2 1 _ W rfl HT2.out rfl hW HQ2.out (by decide) HS2.out
  have HH := hidV ht2
  clear ht1 ht2
  go_enter Tryz.func31, Tryz.ntmps31
  go_upto_region 1 with fail
  rw [← hW0]
  clear hW0
  obtain ⟨E, hE⟩ : ∃ E, E = w.heap.size := ⟨_, rfl⟩
  rw [← hE] at HX0 HEb ⊢
  clear hE
  go_upto_region 2 with (first
    | (go_at_call 51; refine (HP1.out _ HU.out).mono ?_; rintro e w1 ⟨rfl, hu1, hk1⟩))
  have HU1 := hidV hu1
  have HK1 := hidV hk1
  clear hu1 hk1 HP1
  go_upto_region 3 with (first
    | (go_at_call 51; refine (HP.out _ HU1.out).mono ?_; rintro e w2 ⟨rfl, hu2, hk2⟩))
  have HU2 := hidV hu2
  have HK2 := hidV (HK1.out.trans hk2)
  clear hu2 hk2 HP
  obtain ⟨b0, b1, b2, b3⟩ := cells4 (HK2.out.far E _ _ _ HX0.out wvN8 HEb.out)
  go_upto_region 4 with fail
  clear b0 b1 b2 b3
  go_loopg [17] x.nm.length (fun g s wr => ∃ i : Nat, i ≤ x.nm.length ∧ g = x.nm.length - i ∧ s = .int .i64 i ∧ Hid (Bu b wr (headT ++ varsL x i)) ∧ Hid ((headT ++ varsL x i).length ≤ maxO) ∧ Hid (Kb b W0 wr))
  case atStart => exact ⟨0, Nat.zero_le _, rfl, rfl, by show Bu _ _ _; rw [show varsL x 0 = [] from rfl, List.append_nil, ← HH.out]; exact HU2.out, by show _ ≤ _; rw [show varsL x 0 = [] from rfl, List.append_nil, ← HH.out]; exact HQ2.out, HK2.out⟩
  case round =>
    obtain ⟨i, hi, rfl, rfl, HB, HLe, HK⟩ := hrel
    obtain ⟨wx, hwx⟩ : ∃ wx, wx = wr := ⟨_, rfl⟩
    rw [← hwx] at HB HK ⊢
    clear hwx
    by_cases hin : i < x.nm.length
    · have HOl := hidV (Kb.old H0.out HBb.out HK.out)
      obtain ⟨gn, on, rfl, hgn, en⟩ := (HX.out.below HOl.out).at_ i hin
      have hlw : i < x.wd.length := by have := HM.out.lw; omega
      obtain ⟨gw, ow, rfl, hgw0, ew0⟩ := IntsAt.at_ HXw.out i hlw
      have hwd := HM.out.wd i hin
      have i0 : (0 : Int) ≤ (i : Int) := by omega
      have i1 : (i : Int) < (x.nm.length : Int) := by omega
      have i2 : (i : Int) < (x.wd.length : Int) := by omega
      have HIn : Hid (i < x.nm.length ∧ i < 4096) := ⟨hin, by have := HM.out.ln; omega⟩
      have HVl : Hid (varsL x (i + 1) = varsL x i ++ varL x i) := varsL_succ x i
      have HVi : Hid (varL x i = varT ++ (Lib.itoa (iA x.wd i) ++ (32 :: (codeL i ++ (32 :: (nmT (sA x.nm i) ++ endT)))))) := rfl
      have HSz : Hid ((sA x.nm i).size ≤ 256) := HM.out.nm i hin
      have HGw := hidV hgw0
      have HEw := hidV ew0
      clear hgw0 ew0 hin hlw
      obtain ⟨s1, hs1⟩ : ∃ s, s = sA x.nm i := ⟨_, rfl⟩
      rw [← hs1] at en HSz HVi
      clear hs1
      obtain ⟨z, hz⟩ : ∃ z, z = iA x.wd i := ⟨_, rfl⟩
      rw [← hz] at HEw HVi hwd
      clear hz
      obtain ⟨t3, ht3⟩ : ∃ t, t = headT ++ varsL x (i + 1) := ⟨_, rfl⟩
      have HT3 := hidV ht3
      have HL3 : Hid (t3.length ≤ T.length) := by
        show _ ≤ _
        rw [ht3, HT.out, HVt.out]
        simp only [List.length_append]
        have := varsL_le x (show i + 1 ≤ x.nm.length by have := HIn.out; omega)
        omega
      obtain ⟨t2, ht2⟩ : ∃ t, t = headT ++ varsL x i := ⟨_, rfl⟩
      rw [← ht2] at HB HLe
      have HIt : Hid (∀ W, PowT W → Calls Tryz.prog 45 #[.int .i64 z] W fun e w' => e = .returned (.string (S (Lib.itoa z))) ∧ Below W.heap.size W w') := fun W h => itoa_c z W hwd.1 (by omega) h
      have HCd : Hid (∀ W, Calls Tryz.prog 9 #[.int .i64 i] W fun e w' => e = .returned (.tuple #[.string (S (codeL i)), .int .i64 0]) ∧ Below W.heap.size W w') := fun W => codeK_c i W HIn.out.2
      have HIl : Hid ((S (Lib.itoa z)).size ≤ 21) := by show (S _).size ≤ 21; rw [size_S]; exact itoa_len z hwd.1 (by omega)
      have HCl : Hid ((S (codeL i)).size ≤ 2) := by show (S _).size ≤ 2; rw [size_S]; exact (codeL_len i).2
      have HTv : Hid (∀ q : ByteArray, L q = nmT s1 → t3 = t2 ++ lineT [⟨#[36, 118, 97, 114, 32, 119, 105, 114, 101, 32]⟩, S (Lib.itoa z), ⟨#[32]⟩, S (codeL i), ⟨#[32]⟩, q, ⟨#[32, 36, 101, 110, 100]⟩]) := by
        intro q hq
        rw [ht3, ht2, HVl.out, HVi.out, lineT7, hq, L_S, L_S]
        simp only [List.append_assoc]
        rfl
      have HSs : Hid (∀ q : ByteArray, q.size ≤ 256 → ∀ s ∈ [(⟨#[36, 118, 97, 114, 32, 119, 105, 114, 101, 32]⟩ : ByteArray), S (Lib.itoa z), ⟨#[32]⟩, S (codeL i), ⟨#[32]⟩, q, ⟨#[32, 36, 101, 110, 100]⟩], s.size ≤ 100000) := by
        intro q hq s hs
        have := HIl.out
        have := HCl.out
        simp only [List.mem_cons, List.not_mem_nil, or_false] at hs
        rcases hs with rfl | rfl | rfl | rfl | rfl | rfl | rfl
        · show (10 : Nat) ≤ _; decide
        · omega
        · show (1 : Nat) ≤ _; decide
        · omega
        · show (1 : Nat) ≤ _; decide
        · omega
        · show (5 : Nat) ≤ _; decide
      clear ht2 ht3 hwd
      obtain ⟨qi, hqi⟩ : ∃ q, q = S (Lib.itoa z) := ⟨_, rfl⟩
      rw [← hqi] at HIt HTv HSs
      obtain ⟨qc, hqc⟩ : ∃ q, q = S (codeL i) := ⟨_, rfl⟩
      rw [← hqc] at HCd HTv HSs
      clear hqi hqc HIl HCl
      have lE := HK.out.far E _ _ _ HX0.out wvN8 HEb.out
      obtain ⟨b0, b1, b2, b3⟩ := cells4 lE
      have HLE := hidV lE
      clear lE
      by_cases h0 : s1.size = 0
      · have h0' : s1.toList.isEmpty = true := emp_yes h0
        have HTq := hidV (HTv.out ⟨#[95]⟩ (if_pos h0).symm)
        have HSq := hidV (HSs.out ⟨#[95]⟩ (by show (1 : Nat) ≤ _; decide))
        clear h0 HTv HSs
        go_upto_region 8 with fail
        clear h0'
        go_upto_region 9 with (first
          | (go_at_call 9; refine (HCd.out _).mono ?_; rintro e w3 ⟨rfl, hb3⟩))
        have HB3 := hidV hb3
        clear hb3 b0 b1 b2 b3 en
        have HU3 := hidV (HB.out.below HB3.out)
        have HK3 := hidV (HK.out.trans (Kb.of HB3.out (Nat.le_of_lt HB.out.lt)))
        obtain ⟨b0, b1, b2, b3⟩ := cells4 ((HB3.out.block E (hLt HLE.out)).trans HLE.out)
        have ew : w3.cell? ⟨gw, ow + i, none⟩ = some (.int .i64 z) := ((Kb.old H0.out HBb.out HK3.out).cell (p := ⟨gw, ow + i, none⟩) HGw.out).trans HEw.out
        have HPw3 := hidV (HPw.out.bel (Kb.old H0.out HBb.out HK3.out))
        by_cases hq3 : t3.length ≤ maxO
        · have HQ3 := hidV hq3
          have HP : Hid (∀ W, Bu b W t2 → Calls Tryz.prog 51 #[.pointer (some ⟨b, 0, none⟩), .slice (some ⟨W.heap.size, 0, none⟩) 7 7] (W.alloc (.cells #[.string ⟨#[36, 118, 97, 114, 32, 119, 105, 114, 101, 32]⟩, .string qi, .string ⟨#[32]⟩, .string qc, .string ⟨#[32]⟩, .string ⟨#[95]⟩, .string ⟨#[32, 36, 101, 110, 100]⟩] 9)) fun e w' => e = .returned (.tuple #[]) ∧ Bu b w' t3 ∧ Kb b W w') := fun W hW => put_ok b t2 _ t3 7 _ W rfl HTq.out rfl hW HQ3.out (by decide) HSq.out
          clear hq3
          go_wp2_with (first
            | (go_at_call 45; refine (HIt.out _ HPw3.out).mono ?_; rintro e w4 ⟨rfl, hb4⟩; have HB4 := hidV hb4; have HU4 := hidV (HU3.out.below hb4); clear hb4)
            | (go_at_call 51; refine (HP.out _ HU4.out).mono ?_; rintro e w5 ⟨rfl, hu5, hk5⟩; have HU5 := hidV hu5; have HK5 := hidV (HK3.out.trans ((Kb.of HB4.out (Nat.le_of_lt HU3.out.lt)).trans hk5)); clear hu5 hk5))
          go_roundg (x.nm.length - (i + 1))
          case measure => have := HIn.out; omega
          case rel => exact ⟨i + 1, HIn.out.1, rfl, wrap_succ (n := 4096) HIn.out.2 (by decide), by show Bu _ _ _; rw [← HT3.out]; exact HU5.out, by show _ ≤ _; rw [← HT3.out]; exact HQ3.out, HK5.out⟩
        · have HQ3 : Hid (maxO < t3.length) := by show maxO < _; omega
          have HP : Hid (∀ W, Bu b W t2 → Calls Tryz.prog 51 #[.pointer (some ⟨b, 0, none⟩), .slice (some ⟨W.heap.size, 0, none⟩) 7 7] (W.alloc (.cells #[.string ⟨#[36, 118, 97, 114, 32, 119, 105, 114, 101, 32]⟩, .string qi, .string ⟨#[32]⟩, .string qc, .string ⟨#[32]⟩, .string ⟨#[95]⟩, .string ⟨#[32, 36, 101, 110, 100]⟩] 9)) fun e w' => e = .panicked pnV ∧ Kb b W w') := fun W hW => put_no b t2 _ t3 7 _ W rfl HTq.out rfl hW HLe.out HQ3.out (by decide) HSq.out
          clear hq3
          go_wp2_with (first
            | (go_at_call 45; refine (HIt.out _ HPw3.out).mono ?_; rintro e w4 ⟨rfl, hb4⟩; have HB4 := hidV hb4; have HU4 := hidV (HU3.out.below hb4); clear hb4)
            | (go_at_call 51; refine (HP.out _ HU4.out).mono ?_; rintro e w5 ⟨rfl, hk5⟩; have HK5 := hidV (HK3.out.trans ((Kb.of HB4.out (Nat.le_of_lt HU3.out.lt)).trans hk5)); clear hk5))
          exact ⟨rfl, Ln.dead2 (HKw.out _ HK5.out) HQ3.out HL3.out⟩
      · have h0' : s1.toList.isEmpty = false := emp_no h0
        have HTq := hidV (HTv.out s1 (if_neg h0).symm)
        have HSq := hidV (HSs.out s1 HSz.out)
        clear h0 HTv HSs
        go_upto_region 8 with fail
        clear h0'
        go_upto_region 9 with (first
          | (go_at_call 9; refine (HCd.out _).mono ?_; rintro e w3 ⟨rfl, hb3⟩))
        have HB3 := hidV hb3
        clear hb3 b0 b1 b2 b3 en
        have HU3 := hidV (HB.out.below HB3.out)
        have HK3 := hidV (HK.out.trans (Kb.of HB3.out (Nat.le_of_lt HB.out.lt)))
        obtain ⟨b0, b1, b2, b3⟩ := cells4 ((HB3.out.block E (hLt HLE.out)).trans HLE.out)
        have ew : w3.cell? ⟨gw, ow + i, none⟩ = some (.int .i64 z) := ((Kb.old H0.out HBb.out HK3.out).cell (p := ⟨gw, ow + i, none⟩) HGw.out).trans HEw.out
        have HPw3 := hidV (HPw.out.bel (Kb.old H0.out HBb.out HK3.out))
        by_cases hq3 : t3.length ≤ maxO
        · have HQ3 := hidV hq3
          have HP : Hid (∀ W, Bu b W t2 → Calls Tryz.prog 51 #[.pointer (some ⟨b, 0, none⟩), .slice (some ⟨W.heap.size, 0, none⟩) 7 7] (W.alloc (.cells #[.string ⟨#[36, 118, 97, 114, 32, 119, 105, 114, 101, 32]⟩, .string qi, .string ⟨#[32]⟩, .string qc, .string ⟨#[32]⟩, .string s1, .string ⟨#[32, 36, 101, 110, 100]⟩] 9)) fun e w' => e = .returned (.tuple #[]) ∧ Bu b w' t3 ∧ Kb b W w') := fun W hW => put_ok b t2 _ t3 7 _ W rfl HTq.out rfl hW HQ3.out (by decide) HSq.out
          clear hq3
          go_wp2_with (first
            | (go_at_call 45; refine (HIt.out _ HPw3.out).mono ?_; rintro e w4 ⟨rfl, hb4⟩; have HB4 := hidV hb4; have HU4 := hidV (HU3.out.below hb4); clear hb4)
            | (go_at_call 51; refine (HP.out _ HU4.out).mono ?_; rintro e w5 ⟨rfl, hu5, hk5⟩; have HU5 := hidV hu5; have HK5 := hidV (HK3.out.trans ((Kb.of HB4.out (Nat.le_of_lt HU3.out.lt)).trans hk5)); clear hu5 hk5))
          go_roundg (x.nm.length - (i + 1))
          case measure => have := HIn.out; omega
          case rel => exact ⟨i + 1, HIn.out.1, rfl, wrap_succ (n := 4096) HIn.out.2 (by decide), by show Bu _ _ _; rw [← HT3.out]; exact HU5.out, by show _ ≤ _; rw [← HT3.out]; exact HQ3.out, HK5.out⟩
        · have HQ3 : Hid (maxO < t3.length) := by show maxO < _; omega
          have HP : Hid (∀ W, Bu b W t2 → Calls Tryz.prog 51 #[.pointer (some ⟨b, 0, none⟩), .slice (some ⟨W.heap.size, 0, none⟩) 7 7] (W.alloc (.cells #[.string ⟨#[36, 118, 97, 114, 32, 119, 105, 114, 101, 32]⟩, .string qi, .string ⟨#[32]⟩, .string qc, .string ⟨#[32]⟩, .string s1, .string ⟨#[32, 36, 101, 110, 100]⟩] 9)) fun e w' => e = .panicked pnV ∧ Kb b W w') := fun W hW => put_no b t2 _ t3 7 _ W rfl HTq.out rfl hW HLe.out HQ3.out (by decide) HSq.out
          clear hq3
          go_wp2_with (first
            | (go_at_call 45; refine (HIt.out _ HPw3.out).mono ?_; rintro e w4 ⟨rfl, hb4⟩; have HB4 := hidV hb4; have HU4 := hidV (HU3.out.below hb4); clear hb4)
            | (go_at_call 51; refine (HP.out _ HU4.out).mono ?_; rintro e w5 ⟨rfl, hk5⟩; have HK5 := hidV (HK3.out.trans ((Kb.of HB4.out (Nat.le_of_lt HU3.out.lt)).trans hk5)); clear hk5))
          exact ⟨rfl, Ln.dead2 (HKw.out _ HK5.out) HQ3.out HL3.out⟩
    · have hie : i = x.nm.length := by omega
      have HB2 : Hid (Bu b wx (headT ++ varsL x x.nm.length)) := by show Bu _ _ _; rw [← hie]; exact HB.out
      have HLe2 : Hid ((headT ++ varsL x x.nm.length).length ≤ maxO) := by show _ ≤ _; rw [← hie]; exact HLe.out
      have i5 : ¬ (i : Int) < (x.nm.length : Int) := by omega
      clear hin hie HB HLe
      obtain ⟨t3, ht3⟩ : ∃ t, t = headT ++ varsL x x.nm.length := ⟨_, rfl⟩
      rw [← ht3] at HB2 HLe2
      obtain ⟨t4, ht4⟩ : ∃ t, t = t3 ++ lineT [⟨#[36, 117, 112, 115, 99, 111, 112, 101, 32, 36, 101, 110, 100]⟩] := ⟨_, rfl⟩
      have HT4 := hidV ht4
      have HTT : Hid (T = t4 ++ lineT [⟨#[36, 101, 110, 100, 100, 101, 102, 105, 110, 105, 116, 105, 111, 110, 115, 32, 36, 101, 110, 100]⟩]) := by show _ = _; rw [HT.out, HVt.out, ht4, ht3]; simp only [List.append_assoc]; rfl
      have HL4 : Hid (t4.length ≤ T.length) := by show _ ≤ _; rw [HTT.out, List.length_append]; omega
      have HS3 : Hid (∀ s ∈ [(⟨#[36, 117, 112, 115, 99, 111, 112, 101, 32, 36, 101, 110, 100]⟩ : ByteArray)], s.size ≤ 100000) := by intro s hs; simp at hs; subst hs; show (13 : Nat) ≤ _; decide
      have HS4 : Hid (∀ s ∈ [(⟨#[36, 101, 110, 100, 100, 101, 102, 105, 110, 105, 116, 105, 111, 110, 115, 32, 36, 101, 110, 100]⟩ : ByteArray)], s.size ≤ 100000) := by intro s hs; simp at hs; subst hs; show (20 : Nat) ≤ _; decide
      clear ht3 ht4
      go_upto_region 11 with fail
      clear i5
      by_cases hq4 : t4.length ≤ maxO
      case neg =>
        have HQ4 : Hid (maxO < t4.length) := by show maxO < _; omega
        have HP : Hid (∀ W, Bu b W t3 → Calls Tryz.prog 51 #[.pointer (some ⟨b, 0, none⟩), .slice (some ⟨W.heap.size, 0, none⟩) 1 1] (W.alloc (.cells #[.string ⟨#[36, 117, 112, 115, 99, 111, 112, 101, 32, 36, 101, 110, 100]⟩] 9)) fun e w' => e = .panicked pnV ∧ Kb b W w') := fun W hW => put_no b t3 _ t4 1 _ W rfl HT4.out rfl hW HLe2.out HQ4.out (by decide) HS3.out
        clear hq4
        go_wp2_with (first
          | (go_at_call 51; refine (HP.out _ HB2.out).mono ?_; rintro e w3 ⟨rfl, hk3⟩))
        exact ⟨rfl, Ln.dead2 (HKw.out _ (HK.out.trans hk3)) HQ4.out HL4.out⟩
      have HQ4 := hidV hq4
      have HP : Hid (∀ W, Bu b W t3 → Calls Tryz.prog 51 #[.pointer (some ⟨b, 0, none⟩), .slice (some ⟨W.heap.size, 0, none⟩) 1 1] (W.alloc (.cells #[.string ⟨#[36, 117, 112, 115, 99, 111, 112, 101, 32, 36, 101, 110, 100]⟩] 9)) fun e w' => e = .returned (.tuple #[]) ∧ Bu b w' t4 ∧ Kb b W w') := fun W hW => put_ok b t3 _ t4 1 _ W rfl HT4.out rfl hW HQ4.out (by decide) HS3.out
      clear hq4
      go_upto_region 12 with (first
        | (go_at_call 51; refine (HP.out _ HB2.out).mono ?_; rintro e w3 ⟨rfl, hu3, hk3⟩))
      have HU3 := hidV hu3
      have HK3 := hidV (HK.out.trans hk3)
      clear hu3 hk3 HP
      by_cases hq2 : T.length ≤ maxO
      · have HQ5 := hidV hq2
        have HP : Hid (∀ W, Bu b W t4 → Calls Tryz.prog 51 #[.pointer (some ⟨b, 0, none⟩), .slice (some ⟨W.heap.size, 0, none⟩) 1 1] (W.alloc (.cells #[.string ⟨#[36, 101, 110, 100, 100, 101, 102, 105, 110, 105, 116, 105, 111, 110, 115, 32, 36, 101, 110, 100]⟩] 9)) fun e w' => e = .returned (.tuple #[]) ∧ Bu b w' T ∧ Kb b W w') := fun W hW => put_ok b t4 _ T 1 _ W rfl HTT.out rfl hW HQ5.out (by decide) HS4.out
        clear hq2
        go_wp2_with (first
          | (go_at_call 51; refine (HP.out _ HU3.out).mono ?_; rintro e w4 ⟨rfl, hu4, hk4⟩))
        go_end0
        exact Ln.live (HKw.out _ (HK3.out.trans hk4)) hu4 HQ5.out
      · have HQ5 : Hid (maxO < T.length) := by show maxO < _; omega
        have HP : Hid (∀ W, Bu b W t4 → Calls Tryz.prog 51 #[.pointer (some ⟨b, 0, none⟩), .slice (some ⟨W.heap.size, 0, none⟩) 1 1] (W.alloc (.cells #[.string ⟨#[36, 101, 110, 100, 100, 101, 102, 105, 110, 105, 116, 105, 111, 110, 115, 32, 36, 101, 110, 100]⟩] 9)) fun e w' => e = .panicked pnV ∧ Kb b W w') := fun W hW => put_no b t4 _ T 1 _ W rfl HTT.out rfl hW HQ4.out HQ5.out (by decide) HS4.out
        clear hq2
        go_wp2_with (first
          | (go_at_call 51; refine (HP.out _ HU3.out).mono ?_; rintro e w4 ⟨rfl, hk4⟩))
        exact ⟨rfl, Ln.dead2 (HKw.out _ (HK3.out.trans hk4)) HQ5.out (Nat.le_refl _)⟩
end Go.Proofs.YtodpljgajjcdoaaGreatDoor
