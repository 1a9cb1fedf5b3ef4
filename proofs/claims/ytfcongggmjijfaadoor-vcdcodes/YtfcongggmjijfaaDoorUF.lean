/- Layer 19 of the program: the changes. -/
import Derived.Test.YtfcongggmjijfaaDoorUE
namespace Go.Proofs.YtfcongggmjijfaaDoor
set_option maxRecDepth 100000
open Go.RowKit Lg Nl Go.Maps Wf Vd
set_option linter.unusedVariables false
set_option linter.unusedSimpArgs false

theorem chN8 : 41 ≠ 5 := by decide
theorem listL_take (l : List Ch) (i : Nat) : (listL none (l.take i)).length ≤ (listL none l).length := by
  have h := listL_app (l.take i) (l.drop i) none
  rw [List.take_append_drop] at h
  rw [h, List.length_append]
  omega
set_option maxHeartbeats 8000000 in
set_option maxRecDepth 100000 in
theorem changesV_c (x : Wv) (b : Nat) (l : List UInt8) (vl : Value) (w0 w : World) (hx : ChAt w0 vl x.li) (h0 : Below w0.heap.size w0 w) (hb : w0.heap.size ≤ b) (h : Bu b w l) (hl : l.length ≤ maxO) (hm : Nice x) (hll : x.li.length ≤ 100000000) (hp : PowT w0) :
    Calls Tryd.prog 29 #[.pointer (some ⟨b, 0, none⟩), vl] w fun e w' => Ln b w (l ++ listL none x.li) e w' := by
  have HX := hidV hx
  obtain ⟨al, cl, rfl, _, _⟩ := hx
  have H0 := hidV h0
  have HBb := hidV hb
  have HU := hidV h
  have HLl := hidV hl
  have HM := hidV hm
  have HLn := hidV hll
  have HPw := hidV hp
  clear h0 hb h hl hm hll hp
  obtain ⟨T, hT⟩ : ∃ T, T = l ++ listL none x.li := ⟨_, rfl⟩
  rw [← hT]
  have HT := hidV hT
  clear hT
  go_enter Tryd.func29, Tryd.ntmps29
  go_upto_region 1 with fail
  go_loopg [8] x.li.length (fun g s wr => ∃ i : Nat, i ≤ x.li.length ∧ g = x.li.length - i ∧ s = .int .i64 i ∧ Hid (Bu b wr (l ++ listL none (x.li.take i))) ∧ Hid ((l ++ listL none (x.li.take i)).length ≤ maxO) ∧ Hid (Kb b w wr))
  case atStart => exact ⟨0, Nat.zero_le _, rfl, rfl, by show Bu _ _ _; rw [List.take_zero, show listL none [] = [] from rfl, List.append_nil]; exact HU.out, by show _ ≤ _; rw [List.take_zero, show listL none [] = [] from rfl, List.append_nil]; exact HLl.out, Kb.refl _ _⟩
  case round =>
    obtain ⟨i, hi, rfl, rfl, HB, HLe, HK⟩ := hrel
    obtain ⟨wx, hwx⟩ : ∃ wx, wx = wr := ⟨_, rfl⟩
    rw [← hwx] at HB HK ⊢
    clear hwx
    by_cases hin : i < x.li.length
    · have HOl := hidV (Kb.old H0.out HBb.out HK.out)
      have hA := HX.out.below HOl.out
      obtain ⟨gl, ol, rfl, hgl, c0, c1, c2'⟩ := hA.at_ i hin
      have hmi := HM.out.li i hin
      have i0 : (0 : Int) ≤ (i : Int) := by omega
      have i1 : (i : Int) < (x.li.length : Int) := by omega
      have HIn : Hid (i < x.li.length ∧ i < 100000000) := ⟨hin, by have := HLn.out; omega⟩
      have HTk := hidV (listL_app (x.li.take i) [cA x.li i] none)
      have HTe : Hid (x.li.take (i + 1) = x.li.take i ++ [cA x.li i]) := by show _ = _; rw [List.take_add_one, List.getElem?_eq_getElem hin, cA_at hin]; rfl
      rw [← HTe.out] at HTk
      have HPv : Hid ((i = 0 → lastT none (x.li.take i) = none) ∧ (∀ k, i = k + 1 → lastT none (x.li.take i) = some (cA x.li k).t)) := by
        refine ⟨fun h => by rw [h]; rfl, fun k h => ?_⟩
        subst h
        rw [List.take_add_one, List.getElem?_eq_getElem (by omega : k < x.li.length), cA_at (by omega : k < x.li.length)]
        exact lastT_snoc _ _ _
      obtain ⟨lt0, hlt0⟩ : ∃ q, q = lastT none (x.li.take i) := ⟨_, rfl⟩
      rw [← hlt0] at HTk HPv
      clear hlt0
      obtain ⟨y, hy⟩ : ∃ y, y = cA x.li i := ⟨_, rfl⟩
      rw [← hy] at c0 c1 c2' hmi HTk
      clear hy HTe
      obtain ⟨yt, yn, yv⟩ := y
      simp only at c0 c1 c2' hmi
      obtain ⟨kn, rfl⟩ : ∃ kn : Nat, yn = (kn : Int) := ⟨yn.toNat, by omega⟩
      have HTm : Hid (listL none (x.li.take (i + 1)) = listL none (x.li.take i) ++ (timeL lt0 yt ++ valL yv kn)) := by
        have h := HTk.out
        have e : listL lt0 [⟨yt, (kn : Int), yv⟩] = timeL lt0 yt ++ valL yv kn := by show timeL lt0 yt ++ (valL yv (kn : Int).toNat ++ []) = _; rw [List.append_nil, Int.toNat_natCast]
        rw [e] at h
        exact h
      have HMi := hidV hmi
      have HIt : Hid (∀ W, PowT W → Calls Tryd.prog 40 #[.int .i64 yt] W fun e w' => e = .returned (.string (S (Lib.itoa yt))) ∧ Below W.heap.size W w') := fun W h => itoa_c yt W hmi.1.1 (by omega) h
      have HIl : Hid ((S (Lib.itoa yt)).size ≤ 21) := by show (S _).size ≤ 21; rw [size_S]; exact itoa_len yt hmi.1.1 (by omega)
      clear hmi HTk hi hin
      obtain ⟨t0, ht0⟩ : ∃ t, t = l ++ listL none (x.li.take i) := ⟨_, rfl⟩
      rw [← ht0] at HB HLe
      have HT0 := hidV ht0
      obtain ⟨t3, ht3⟩ : ∃ t, t = l ++ listL none (x.li.take (i + 1)) := ⟨_, rfl⟩
      have HT3 : Hid (t3 = t0 ++ (timeL lt0 yt ++ valL yv kn)) := by show _ = _; rw [ht3, ht0, HTm.out]; simp only [List.append_assoc]
      have HL3 : Hid (t3.length ≤ T.length) := by
        show _ ≤ _
        rw [ht3, HT.out]
        simp only [List.length_append]
        have := listL_take x.li (i + 1)
        omega
      have HT3' := hidV ht3
      clear ht0 ht3
      obtain ⟨W6, hW6⟩ : ∃ W6, W6 = wx.alloc (.cells #[.int .i64 yt, .int .i64 (kn : Int), .string yv] 41) := ⟨_, rfl⟩
      have HB6 : Hid (Below wx.heap.size wx W6) := by rw [hW6]; exact belA (Below.refl _ _) _
      have HF6 : Hid (W6.heap[wx.heap.size]? = some (.cells #[.int .i64 yt, .int .i64 (kn : Int), .string yv] 41 (0, 0))) := by rw [hW6]; exact alAt rfl
      go_upto_region 3 with fail
      rw [← hW6]
      clear hW6 c0 c1 c2'
      obtain ⟨c0, c1, c2'⟩ := cells3n HF6.out
      have lF := hLt HF6.out
      have HK6 := hidV (HK.out.trans (Kb.of HB6.out (Nat.le_of_lt HB.out.lt)))
      have HU6 := hidV (HB.out.below HB6.out)
      have HFb : Hid (wx.heap.size ≠ b) := by have := HB.out.lt; show _ ≠ _; omega
      have HA6 : Hid (ChAt W6 (.slice (some ⟨gl, ol, none⟩) x.li.length cl) x.li) := HX.out.below (Kb.old H0.out HBb.out HK6.out)
      clear hA HB HB6 HOl
      generalize wx.heap.size = F at c0 c1 c2' HF6 lF HFb ⊢
      obtain ⟨tb, htb⟩ : ∃ tb : Bool, tb = decide (lt0 ≠ some yt) := ⟨_, rfl⟩
      have HTb : Hid (tb = decide (lt0 ≠ some yt)) := htb
      clear htb
      go_cut [25] from 13 to 38 (fun s25 wy => s25 = .bool tb ∧ Hid (Below W6.heap.size W6 wy))
      case first =>
        by_cases h0 : i = 0
        · have h0' : ((i : Int) == 0) = true := by rw [beq_iff_eq]; omega
          have HY : Hid (tb = true) := by show tb = true; rw [HTb.out, HPv.out.1 h0]; exact decide_eq_true (by simp)
          clear h0
          go_quiet (fail)
          go_wp2_with fail
          go_meet
          exact ⟨by rw [HY.out], bdn (Below.refl _ _) _⟩
        · obtain ⟨k, rfl⟩ : ∃ k, i = k + 1 := ⟨i - 1, by omega⟩
          have h0' : (((k + 1 : Nat) : Int) == 0) = false := by rw [beq_eq_false_iff_ne]; omega
          have h0'' : ((k : Int) + 1 == 0) = false := by rw [beq_eq_false_iff_ne]; omega
          obtain ⟨g', o', eg, hgk, p0, p1, p2⟩ := HA6.out.at_ k (by have := HIn.out; omega)
          injection eg with eg
          injection eg with eg1 eg2
          subst eg1 eg2
          have k1 : (k : Int) < (x.li.length : Int) := by have := HIn.out; omega
          have hwk : IntKind.i64.wrap (k : Int) = (k : Int) := by have := HIn.out; rw [IntKind.wrap_i64]; omega
          have HPk : Hid (lt0 = some (cA x.li k).t) := HPv.out.2 k rfl
          clear h0 HPv p1 p2
          generalize (cA x.li k).t = pt at p0 HPk
          by_cases ht : pt = yt
          · have ht' : (yt != pt) = false := by rw [bne_eq_false_iff_eq]; exact ht.symm
            have HY : Hid (tb = false) := by show tb = false; rw [HTb.out, HPk.out, ht]; exact decide_eq_false (by simp)
            clear ht
            go_quiet (fail)
            go_wp2_with fail
            go_meet
            exact ⟨by rw [HY.out], bdn (Below.refl _ _) _⟩
          · have ht' : (yt != pt) = true := by rw [bne_iff_ne]; exact fun e => ht e.symm
            have HY : Hid (tb = true) := by show tb = true; rw [HTb.out, HPk.out]; exact decide_eq_true (by simpa using ht)
            clear ht
            go_quiet (fail)
            go_wp2_with fail
            go_meet
            exact ⟨by rw [HY.out], bdn (Below.refl _ _) _⟩
      case rest =>
        obtain ⟨rfl, HB7⟩ := hcut
        obtain ⟨w7, hw7⟩ : ∃ w7, w7 = wc := ⟨_, rfl⟩
        rw [← hw7] at HB7 ⊢
        clear hw7 c0 c1 c2' HPv HA6
        have HK7 := hidV (HK6.out.trans (Kb.of HB7.out (Nat.le_of_lt HU6.out.lt)))
        have HU7 := hidV (HU6.out.below HB7.out)
        have HF7 : Hid (w7.heap[F]? = some (.cells #[.int .i64 yt, .int .i64 (kn : Int), .string yv] 41 (0, 0))) := (HB7.out.block F lF).trans HF6.out
        obtain ⟨c0, c1, c2'⟩ := cells3n HF7.out
        clear HF6 HB7 HU6 HK6 lF
        cases tb with
        | true =>
          have HTy : Hid (timeL lt0 yt = 35 :: (Lib.itoa yt ++ [10])) := if_neg (of_decide_eq_true HTb.out.symm)
          obtain ⟨q, hq⟩ : ∃ q, q = S (Lib.itoa yt) := ⟨_, rfl⟩
          obtain ⟨t1, ht1⟩ : ∃ t, t = t0 ++ timeL lt0 yt := ⟨_, rfl⟩
          have HT1 : Hid (t1 = t0 ++ lineT [⟨#[35]⟩, q]) := by show _ = _; rw [ht1, HTy.out, lineT2, hq, L_S]; rfl
          have HT4 : Hid (t3 = t1 ++ valL yv kn) := by show _ = _; rw [HT3.out, ht1, List.append_assoc]
          have HL1 : Hid (t1.length ≤ T.length) := by show _ ≤ _; have := HL3.out; rw [HT4.out, List.length_append] at this; omega
          rw [← hq] at HIt HIl
          have HSs : Hid (∀ s ∈ [(⟨#[35]⟩ : ByteArray), q], s.size ≤ 100000) := by
            intro s hs
            have := HIl.out
            simp only [List.mem_cons, List.not_mem_nil, or_false] at hs
            rcases hs with rfl | rfl
            · show (1 : Nat) ≤ _; decide
            · omega
          have HP7 := hidV (HPw.out.bel (Kb.old H0.out HBb.out HK7.out))
          clear HTb hq ht1 HTy
          by_cases hq1 : t1.length ≤ maxO
          case neg =>
            have HQ1 : Hid (maxO < t1.length) := by show maxO < _; omega
            have HP : Hid (∀ W, Bu b W t0 → Calls Tryd.prog 39 #[.pointer (some ⟨b, 0, none⟩), .slice (some ⟨W.heap.size, 0, none⟩) 2 2] (W.alloc (.cells #[.string ⟨#[35]⟩, .string q] 9)) fun e w' => e = .panicked pnV ∧ Kb b W w') := fun W hW => put_no b t0 _ t1 2 _ W rfl HT1.out rfl hW HLe.out HQ1.out (by decide) HSs.out
            clear hq1
            go_wp2_with (first
              | (go_at_call 40; refine (HIt.out _ HP7.out).mono ?_; rintro e w8 ⟨rfl, hb8⟩; have HB8 := hidV hb8; have HU8 := hidV (HU7.out.below hb8); clear hb8)
              | (go_at_call 39; refine (HP.out _ HU8.out).mono ?_; rintro e w9 ⟨rfl, hk9⟩))
            exact ⟨rfl, Ln.dead2 (HK7.out.trans ((Kb.of HB8.out (Nat.le_of_lt HU7.out.lt)).trans hk9)) HQ1.out HL1.out⟩
          have HQ1 := hidV hq1
          have HP : Hid (∀ W, Bu b W t0 → Calls Tryd.prog 39 #[.pointer (some ⟨b, 0, none⟩), .slice (some ⟨W.heap.size, 0, none⟩) 2 2] (W.alloc (.cells #[.string ⟨#[35]⟩, .string q] 9)) fun e w' => e = .returned (.tuple #[]) ∧ Bu b w' t1 ∧ Kb b W w') := fun W hW => put_ok b t0 _ t1 2 _ W rfl HT1.out rfl hW HQ1.out (by decide) HSs.out
          clear hq1
          go_upto_region 5 with (first
            | (go_at_call 40; refine (HIt.out _ HP7.out).mono ?_; rintro e w8 ⟨rfl, hb8⟩; have HB8 := hidV hb8; have HU8 := hidV (HU7.out.below hb8); clear hb8)
            | (go_at_call 39; refine (HP.out _ HU8.out).mono ?_; rintro e w9 ⟨rfl, hu9, hk9⟩))
          have HU9 := hidV hu9
          have HK79 := hidV ((Kb.of HB8.out (Nat.le_of_lt HU7.out.lt)).trans hk9)
          have HK9 := hidV (HK7.out.trans HK79.out)
          clear hu9 hk9 c0 c1 c2' HP
          obtain ⟨c0, c1, c2'⟩ := cells3n (HK79.out.far F _ _ _ HF7.out chN8 HFb.out)
          have HV : Hid (Calls Tryd.prog 41 #[.pointer (some ⟨b, 0, none⟩), .int .i64 kn, .string yv] w9 fun e w' => Ln b w9 t3 e w') := by
            have h := value_c b t1 kn yv w9 HU9.out (by have := HMi.out; omega) HMi.out.2.2 HQ1.out
            rw [← HT4.out] at h
            exact h
          by_cases hq3 : t3.length ≤ maxO
          · have HC := hidV (calls_ok HV.out hq3)
            have HQ3 := hidV hq3
            clear hq3 HV
            go_wp2_with (first
              | (go_at_call 41; refine HC.out.mono ?_; rintro e wb ⟨rfl, hub, hkb⟩; have HUb := hidV hub; have HKb := hidV hkb; clear hub hkb))
            go_roundg (x.li.length - (i + 1))
            case measure => have := HIn.out; omega
            case rel => exact ⟨i + 1, HIn.out.1, rfl, wrap_succ (n := 100000000) HIn.out.2 (by decide), by show Bu _ _ _; rw [← HT3'.out]; exact HUb.out, by show _ ≤ _; rw [← HT3'.out]; exact HQ3.out, HK9.out.trans HKb.out⟩
          · have HQ3 : Hid (maxO < t3.length) := by show maxO < _; omega
            have HC := hidV (calls_no HV.out HQ3.out)
            clear hq3 HV
            go_wp2_with (first
              | (go_at_call 41; refine HC.out.mono ?_; rintro e wb ⟨rfl, hkb⟩; have HKb := hidV hkb; clear hkb))
            exact ⟨rfl, Ln.dead2 (HK9.out.trans HKb.out) HQ3.out HL3.out⟩
        | false =>
          have HTy : Hid (timeL lt0 yt = []) := if_pos (by have h := HTb.out; by_cases e : lt0 = some yt; exact e; rw [decide_eq_true (show lt0 ≠ some yt from e)] at h; cases h)
          have HT4 : Hid (t3 = t0 ++ valL yv kn) := by show _ = _; rw [HT3.out, HTy.out]; rfl
          clear HTb HTy HIt HIl
          have HV : Hid (Calls Tryd.prog 41 #[.pointer (some ⟨b, 0, none⟩), .int .i64 kn, .string yv] w7 fun e w' => Ln b w7 t3 e w') := by
            have h := value_c b t0 kn yv w7 HU7.out (by have := HMi.out; omega) HMi.out.2.2 HLe.out
            rw [← HT4.out] at h
            exact h
          by_cases hq3 : t3.length ≤ maxO
          · have HC := hidV (calls_ok HV.out hq3)
            have HQ3 := hidV hq3
            clear hq3 HV
            go_wp2_with (first
              | (go_at_call 41; refine HC.out.mono ?_; rintro e wb ⟨rfl, hub, hkb⟩; have HUb := hidV hub; have HKb := hidV hkb; clear hub hkb))
            go_roundg (x.li.length - (i + 1))
            case measure => have := HIn.out; omega
            case rel => exact ⟨i + 1, HIn.out.1, rfl, wrap_succ (n := 100000000) HIn.out.2 (by decide), by show Bu _ _ _; rw [← HT3'.out]; exact HUb.out, by show _ ≤ _; rw [← HT3'.out]; exact HQ3.out, HK7.out.trans HKb.out⟩
          · have HQ3 : Hid (maxO < t3.length) := by show maxO < _; omega
            have HC := hidV (calls_no HV.out HQ3.out)
            clear hq3 HV
            go_wp2_with (first
              | (go_at_call 41; refine HC.out.mono ?_; rintro e wb ⟨rfl, hkb⟩; have HKb := hidV hkb; clear hkb))
            exact ⟨rfl, Ln.dead2 (HK7.out.trans HKb.out) HQ3.out HL3.out⟩
    · have hie : i = x.li.length := by omega
      have HB2 : Hid (Bu b wx T) := by show Bu _ _ _; have h := HB.out; rw [hie, List.take_length, ← HT.out] at h; exact h
      have HLe2 : Hid (T.length ≤ maxO) := by show _ ≤ _; have h := HLe.out; rw [hie, List.take_length, ← HT.out] at h; exact h
      have i5 : ¬ (i : Int) < (x.li.length : Int) := by omega
      clear hin hie HB HLe
      go_wp2_with fail
      go_end0
      exact Ln.live HK.out HB2.out HLe2.out
end Go.Proofs.YtfcongggmjijfaaDoor
