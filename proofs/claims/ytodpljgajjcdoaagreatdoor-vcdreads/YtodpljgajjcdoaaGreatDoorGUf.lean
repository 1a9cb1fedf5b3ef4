/- Texts UF UG UH, joined: what each part says stands ahead of it. -/
import Derived.Test.YtodpljgajjcdoaaGreatDoorGUd
/- Layer 19 of the program: the changes. -/
namespace Go.Proofs.YtodpljgajjcdoaaGreatDoor
set_option maxRecDepth 100000
open Go.RowKit Lg Nl Go.Maps Wf Vd
set_option linter.unusedVariables false
set_option linter.unusedSimpArgs false

theorem chN8 : 34 ≠ 5 := by decide
theorem listL_take (l : List Ch) (i : Nat) : (listL none (l.take i)).length ≤ (listL none l).length := by
  have h := listL_app (l.take i) (l.drop i) none
  rw [List.take_append_drop] at h
  rw [h, List.length_append]
  omega
set_option maxHeartbeats 8000000 in
set_option maxRecDepth 100000 in
theorem changesV_c (x : Wv) (b : Nat) (l : List UInt8) (vl : Value) (w0 w : World) (hx : ChAt w0 vl x.li) (h0 : Below w0.heap.size w0 w) (hb : w0.heap.size ≤ b) (h : Bu b w l) (hl : l.length ≤ maxO) (hm : Nice x) (hll : x.li.length ≤ 100000000) (hp : PowT w0) :
    Calls Tryz.prog 33 #[.pointer (some ⟨b, 0, none⟩), vl] w fun e w' => Ln b w (l ++ listL none x.li) e w' := by
  have HX := hidV hx
  obtain ⟨al, cl, rfl, _, _⟩ := hx
  have H0 := hidV h0
  have HBb := hidV hb
  have HU := hidV h
  have HLl := hidV hl
  have HM := hidV hm
  have HLn := hidV hll
  have HPw := hidV hp
  clear h0 hb h hl hm hll hp
  obtain ⟨T, hT⟩ : ∃ T, T = l ++ listL none x.li := ⟨_, rfl⟩
  rw [← hT]
  have HT := hidV hT
  clear hT
  go_enter Tryz.func33, Tryz.ntmps33
  go_upto_region 1 with fail
  go_loopg [8] x.li.length (fun g s wr => ∃ i : Nat, i ≤ x.li.length ∧ g = x.li.length - i ∧ s = .int .i64 i ∧ Hid (Bu b wr (l ++ listL none (x.li.take i))) ∧ Hid ((l ++ listL none (x.li.take i)).length ≤ maxO) ∧ Hid (Kb b w wr))
  case atStart => exact ⟨0, Nat.zero_le _, rfl, rfl, by show Bu _ _ _; rw [List.take_zero, show listL none [] = [] from rfl, List.append_nil]; exact HU.out, by show _ ≤ _; rw [List.take_zero, show listL none [] = [] from rfl, List.append_nil]; exact HLl.out, Kb.refl _ _⟩
  case round =>
    obtain ⟨i, hi, rfl, rfl, HB, HLe, HK⟩ := hrel
    obtain ⟨wx, hwx⟩ : ∃ wx, wx = wr := ⟨_, rfl⟩
    rw [← hwx] at HB HK ⊢
    clear hwx
    by_cases hin : i < x.li.length
    · have HOl := hidV (Kb.old H0.out HBb.out HK.out)
      have hA := HX.out.below HOl.out
      obtain ⟨gl, ol, rfl, hgl, c0, c1, c2'⟩ := hA.at_ i hin
      have hmi := HM.out.li i hin
      have i0 : (0 : Int) ≤ (i : Int) := by omega
      have i1 : (i : Int) < (x.li.length : Int) := by omega
      have HIn : Hid (i < x.li.length ∧ i < 100000000) := ⟨hin, by have := HLn.out; omega⟩
      have HTk := hidV (listL_app (x.li.take i) [cA x.li i] none)
      have HTe : Hid (x.li.take (i + 1) = x.li.take i ++ [cA x.li i]) := by show _ = _; rw [List.take_add_one, List.getElem?_eq_getElem hin, cA_at hin]; rfl
      rw [← HTe.out] at HTk
      have HPv : Hid ((i = 0 → lastT none (x.li.take i) = none) ∧ (∀ k, i = k + 1 → lastT none (x.li.take i) = some (cA x.li k).t)) := by
        refine ⟨fun h => by rw [h]; rfl, fun k h => ?_⟩
        subst h
        rw [List.take_add_one, List.getElem?_eq_getElem (by omega : k < x.li.length), cA_at (by omega : k < x.li.length)]
        exact lastT_snoc _ _ _
      obtain ⟨lt0, hlt0⟩ : ∃ q, q = lastT none (x.li.take i) := ⟨_, rfl⟩
      rw [← hlt0] at HTk HPv
      clear hlt0
      obtain ⟨y, hy⟩ : ∃ y, y = cA x.li i := ⟨_, rfl⟩
      rw [← hy] at c0 c1 c2' hmi HTk
      clear hy HTe
      obtain ⟨yt, yn, yv⟩ := y
      simp only at c0 c1 c2' hmi
      obtain ⟨kn, rfl⟩ : ∃ kn : Nat, yn = (kn : Int) := ⟨yn.toNat, by omega⟩
      have HTm : Hid (listL none (x.li.take (i + 1)) = listL none (x.li.take i) ++ (timeL lt0 yt ++ valL yv kn)) := by
        have h := HTk.out
        have e : listL lt0 [⟨yt, (kn : Int), yv⟩] = timeL lt0 yt ++ valL yv kn := by show timeL lt0 yt ++ (valL yv (kn : Int).toNat ++ []) = _; rw [List.append_nil, Int.toNat_natCast]
        rw [e] at h
        exact h
      have HMi := hidV hmi
      have HIt : Hid (∀ W, PowT W → Calls Tryz.prog 45 #[.int .i64 yt] W fun e w' => e = .returned (.string (S (Lib.itoa yt))) ∧ Below W.heap.size W w') := fun W h => itoa_c yt W hmi.1.1 (by omega) h
      have HIl : Hid ((S (Lib.itoa yt)).size ≤ 21) := by show (S _).size ≤ 21; rw [size_S]; exact itoa_len yt hmi.1.1 (by omega)
      clear hmi HTk hi hin
      obtain ⟨t0, ht0⟩ : ∃ t, t = l ++ listL none (x.li.take i) := ⟨_, rfl⟩
      rw [← ht0] at HB HLe
      have HT0 := hidV ht0
      obtain ⟨t3, ht3⟩ : ∃ t, t = l ++ listL none (x.li.take (i + 1)) := ⟨_, rfl⟩
      have HT3 : Hid (t3 = t0 ++ (timeL lt0 yt ++ valL yv kn)) := by show _ = _; rw [ht3, ht0, HTm.out]; simp only [List.append_assoc]
      have HL3 : Hid (t3.length ≤ T.length) := by
        show _ ≤ _
        rw [ht3, HT.out]
        simp only [List.length_append]
        have := listL_take x.li (i + 1)
        omega
      have HT3' := hidV ht3
      clear ht0 ht3
      obtain ⟨W6, hW6⟩ : ∃ W6, W6 = wx.alloc (.cells #[.int .i64 yt, .int .i64 (kn : Int), .string yv] 34) := ⟨_, rfl⟩
      have HB6 : Hid (Below wx.heap.size wx W6) := by rw [hW6]; exact belA (Below.refl _ _) _
      have HF6 : Hid (W6.heap[wx.heap.size]? = some (.cells #[.int .i64 yt, .int .i64 (kn : Int), .string yv] 34 (0, 0))) := by rw [hW6]; exact alAt rfl
      go_upto_region 3 with fail
      rw [← hW6]
      clear hW6 c0 c1 c2'
      obtain ⟨c0, c1, c2'⟩ := cells3n HF6.out
      have lF := hLt HF6.out
      have HK6 := hidV (HK.out.trans (Kb.of HB6.out (Nat.le_of_lt HB.out.lt)))
      have HU6 := hidV (HB.out.below HB6.out)
      have HFb : Hid (wx.heap.size ≠ b) := by have := HB.out.lt; show _ ≠ _; omega
      have HA6 : Hid (ChAt W6 (.slice (some ⟨gl, ol, none⟩) x.li.length cl) x.li) := HX.out.below (Kb.old H0.out HBb.out HK6.out)
      clear hA HB HB6 HOl
      generalize wx.heap.size = F at c0 c1 c2' HF6 lF HFb ⊢
      obtain ⟨tb, htb⟩ : ∃ tb : Bool, tb = decide (lt0 ≠ some yt) := ⟨_, rfl⟩
      have HTb : Hid (tb = decide (lt0 ≠ some yt)) := htb
      clear htb
      go_cut [25] from 13 to 38 (fun s25 wy => s25 = .bool tb ∧ Hid (Below W6.heap.size W6 wy))
      case first =>
        by_cases h0 : i = 0
        · have h0' : ((i : Int) == 0) = true := by rw [beq_iff_eq]; omega
          have HY : Hid (tb = true) := by show tb = true; rw [HTb.out, HPv.out.1 h0]; exact decide_eq_true (by simp)
          clear h0
          go_quiet (fail)
          go_wp2_with fail
          go_meet
          exact ⟨by rw [HY.out], bdn (Below.refl _ _) _⟩
        · obtain ⟨k, rfl⟩ : ∃ k, i = k + 1 := ⟨i - 1, by omega⟩
          have h0' : (((k + 1 : Nat) : Int) == 0) = false := by rw [beq_eq_false_iff_ne]; omega
          have h0'' : ((k : Int) + 1 == 0) = false := by rw [beq_eq_false_iff_ne]; omega
          obtain ⟨g', o', eg, hgk, p0, p1, p2⟩ := HA6.out.at_ k (by have := HIn.out; omega)
          injection eg with eg
          injection eg with eg1 eg2
          subst eg1 eg2
          have k1 : (k : Int) < (x.li.length : Int) := by have := HIn.out; omega
          have hwk : IntKind.i64.wrap (k : Int) = (k : Int) := by have := HIn.out; rw [IntKind.wrap_i64]; omega
          have HPk : Hid (lt0 = some (cA x.li k).t) := HPv.out.2 k rfl
          clear h0 HPv p1 p2
          generalize (cA x.li k).t = pt at p0 HPk
          by_cases ht : pt = yt
          · have ht' : (yt != pt) = false := by rw [bne_eq_false_iff_eq]; exact ht.symm
            have HY : Hid (tb = false) := by show tb = false; rw [HTb.out, HPk.out, ht]; exact decide_eq_false (by simp)
            clear ht
            go_quiet (fail)
            go_wp2_with fail
            go_meet
            exact ⟨by rw [HY.out], bdn (Below.refl _ _) _⟩
          · have ht' : (yt != pt) = true := by rw [bne_iff_ne]; exact fun e => ht e.symm
            have HY : Hid (tb = true) := by show tb = true; rw [HTb.out, HPk.out]; exact decide_eq_true (by simpa using ht)
            clear ht
            go_quiet (fail)
            go_wp2_with fail
            go_meet
            exact ⟨by rw [HY.out], bdn (Below.refl _ _) _⟩
      case rest =>
        obtain ⟨rfl, HB7⟩ := hcut
        obtain ⟨w7, hw7⟩ : ∃ w7, w7 = wc := ⟨_, rfl⟩
        rw [← hw7] at HB7 ⊢
        clear hw7 c0 c1 c2' HPv HA6
        have HK7 := hidV (HK6.out.trans (Kb.of HB7.out (Nat.le_of_lt HU6.out.lt)))
        have HU7 := hidV (HU6.out.below HB7.out)
        have HF7 : Hid (w7.heap[F]? = some (.cells #[.int .i64 yt, .int .i64 (kn : Int), .string yv] 34 (0, 0))) := (HB7.out.block F lF).trans HF6.out
        obtain ⟨c0, c1, c2'⟩ := cells3n HF7.out
        clear HF6 HB7 HU6 HK6 lF
        cases tb with
        | true =>
          have HTy : Hid (timeL lt0 yt = 35 :: (Lib.itoa yt ++ [10])) := if_neg (of_decide_eq_true HTb.out.symm)
          obtain ⟨q, hq⟩ : ∃ q, q = S (Lib.itoa yt) := ⟨_, rfl⟩
          obtain ⟨t1, ht1⟩ : ∃ t, t = t0 ++ timeL lt0 yt := ⟨_, rfl⟩
          have HT1 : Hid (t1 = t0 ++ lineT [⟨#[35]⟩, q]) := by show _ = _; rw [ht1, HTy.out, lineT2, hq, L_S]; rfl
          have HT4 : Hid (t3 = t1 ++ valL yv kn) := by show _ = _; rw [HT3.out, ht1, List.append_assoc]
          have HL1 : Hid (t1.length ≤ T.length) := by show _ ≤ _; have := HL3.out; rw [HT4.out, List.length_append] at this; omega
          rw [← hq] at HIt HIl
          have HSs : Hid (∀ s ∈ [(⟨#[35]⟩ : ByteArray), q], s.size ≤ 100000) := by
            intro s hs
            have := HIl.out
            simp only [List.mem_cons, List.not_mem_nil, or_false] at hs
            rcases hs with rfl | rfl
            · show (1 : Nat) ≤ _; decide
            · omega
          have HP7 := hidV (HPw.out.bel (Kb.old H0.out HBb.out HK7.out))
          clear HTb hq ht1 HTy
          by_cases hq1 : t1.length ≤ maxO
          case neg =>
            have HQ1 : Hid (maxO < t1.length) := by show maxO < _; omega
            have HP : Hid (∀ W, Bu b W t0 → Calls Tryz.prog 51 #[.pointer (some ⟨b, 0, none⟩), .slice (some ⟨W.heap.size, 0, none⟩) 2 2] (W.alloc (.cells #[.string ⟨#[35]⟩, .string q] 9)) fun e w' => e = .panicked pnV ∧ Kb b W w') := fun W hW => put_no b t0 _ t1 2 _ W rfl HT1.out rfl hW HLe.out HQ1.out (by decide) HSs.out
            clear hq1
            go_wp2_with (first
              | (go_at_call 45; refine (HIt.out _ HP7.out).mono ?_; rintro e w8 ⟨rfl, hb8⟩; have HB8 := hidV hb8; have HU8 := hidV (HU7.out.below hb8); clear hb8)
              | (go_at_call 51; refine (HP.out _ HU8.out).mono ?_; rintro e w9 ⟨rfl, hk9⟩))
            exact ⟨rfl, Ln.dead2 (HK7.out.trans ((Kb.of HB8.out (Nat.le_of_lt HU7.out.lt)).trans hk9)) HQ1.out HL1.out⟩
          have HQ1 := hidV hq1
          have HP : Hid (∀ W, Bu b W t0 → Calls Tryz.prog 51 #[.pointer (some ⟨b, 0, none⟩), .slice (some ⟨W.heap.size, 0, none⟩) 2 2] (W.alloc (.cells #[.string ⟨#[35]⟩, .string q] 9)) fun e w' => e = .returned (.tuple #[]) ∧ Bu b w' t1 ∧ Kb b W w') := fun W hW => put_ok b t0 _ t1 2 _ W rfl HT1.out rfl hW HQ1.out (by decide) HSs.out
          clear hq1
          go_upto_region 5 with (first
            | (go_at_call 45; refine (HIt.out _ HP7.out).mono ?_; rintro e w8 ⟨rfl, hb8⟩; have HB8 := hidV hb8; have HU8 := hidV (HU7.out.below hb8); clear hb8)
            | (go_at_call 51; refine (HP.out _ HU8.out).mono ?_; rintro e w9 ⟨rfl, hu9, hk9⟩))
          have HU9 := hidV hu9
          have HK79 := hidV ((Kb.of HB8.out (Nat.le_of_lt HU7.out.lt)).trans hk9)
          have HK9 := hidV (HK7.out.trans HK79.out)
          clear hu9 hk9 c0 c1 c2' HP
          obtain ⟨c0, c1, c2'⟩ := cells3n (HK79.out.far F _ _ _ HF7.out chN8 HFb.out)
          have HV : Hid (Calls Tryz.prog 52 #[.pointer (some ⟨b, 0, none⟩), .int .i64 kn, .string yv] w9 fun e w' => Ln b w9 t3 e w') := by
            have h := value_c b t1 kn yv w9 HU9.out (by have := HMi.out; omega) HMi.out.2.2 HQ1.out
            rw [← HT4.out] at h
            exact h
          by_cases hq3 : t3.length ≤ maxO
          · have HC := hidV (calls_ok HV.out hq3)
            have HQ3 := hidV hq3
            clear hq3 HV
            go_wp2_with (first
              | (go_at_call 52; refine HC.out.mono ?_; rintro e wb ⟨rfl, hub, hkb⟩; have HUb := hidV hub; have HKb := hidV hkb; clear hub hkb))
            go_roundg (x.li.length - (i + 1))
            case measure => have := HIn.out; omega
            case rel => exact ⟨i + 1, HIn.out.1, rfl, wrap_succ (n := 100000000) HIn.out.2 (by decide), by show Bu _ _ _; rw [← HT3'.out]; exact HUb.out, by show _ ≤ _; rw [← HT3'.out]; exact HQ3.out, HK9.out.trans HKb.out⟩
          · have HQ3 : Hid (maxO < t3.length) := by show maxO < _; omega
            have HC := hidV (calls_no HV.out HQ3.out)
            clear hq3 HV
            go_wp2_with (first
              | (go_at_call 52; refine HC.out.mono ?_; rintro e wb ⟨rfl, hkb⟩; have HKb := hidV hkb; clear hkb))
            exact ⟨rfl, Ln.dead2 (HK9.out.trans HKb.out) HQ3.out HL3.out⟩
        | false =>
          have HTy : Hid (timeL lt0 yt = []) := if_pos (by have h := HTb.out; by_cases e : lt0 = some yt; exact e; rw [decide_eq_true (show lt0 ≠ some yt from e)] at h; cases h)
          have HT4 : Hid (t3 = t0 ++ valL yv kn) := by show _ = _; rw [HT3.out, HTy.out]; rfl
          clear HTb HTy HIt HIl
          have HV : Hid (Calls Tryz.prog 52 #[.pointer (some ⟨b, 0, none⟩), .int .i64 kn, .string yv] w7 fun e w' => Ln b w7 t3 e w') := by
            have h := value_c b t0 kn yv w7 HU7.out (by have := HMi.out; omega) HMi.out.2.2 HLe.out
            rw [← HT4.out] at h
            exact h
          by_cases hq3 : t3.length ≤ maxO
          · have HC := hidV (calls_ok HV.out hq3)
            have HQ3 := hidV hq3
            clear hq3 HV
            go_wp2_with (first
              | (go_at_call 52; refine HC.out.mono ?_; rintro e wb ⟨rfl, hub, hkb⟩; have HUb := hidV hub; have HKb := hidV hkb; clear hub hkb))
            go_roundg (x.li.length - (i + 1))
            case measure => have := HIn.out; omega
            case rel => exact ⟨i + 1, HIn.out.1, rfl, wrap_succ (n := 100000000) HIn.out.2 (by decide), by show Bu _ _ _; rw [← HT3'.out]; exact HUb.out, by show _ ≤ _; rw [← HT3'.out]; exact HQ3.out, HK7.out.trans HKb.out⟩
          · have HQ3 : Hid (maxO < t3.length) := by show maxO < _; omega
            have HC := hidV (calls_no HV.out HQ3.out)
            clear hq3 HV
            go_wp2_with (first
              | (go_at_call 52; refine HC.out.mono ?_; rintro e wb ⟨rfl, hkb⟩; have HKb := hidV hkb; clear hkb))
            exact ⟨rfl, Ln.dead2 (HK7.out.trans HKb.out) HQ3.out HL3.out⟩
    · have hie : i = x.li.length := by omega
      have HB2 : Hid (Bu b wx T) := by show Bu _ _ _; have h := HB.out; rw [hie, List.take_length, ← HT.out] at h; exact h
      have HLe2 : Hid (T.length ≤ maxO) := by show _ ≤ _; have h := HLe.out; rw [hie, List.take_length, ← HT.out] at h; exact h
      have i5 : ¬ (i : Int) < (x.li.length : Int) := by omega
      clear hin hie HB HLe
      go_wp2_with fail
      go_end0
      exact Ln.live HK.out HB2.out HLe2.out
end Go.Proofs.YtodpljgajjcdoaaGreatDoor

/- Layer 19 of the program: a dump is written, or given up. -/
namespace Go.Proofs.YtodpljgajjcdoaaGreatDoor
set_option maxRecDepth 100000
open Go.RowKit Lg Nl Go.Maps Wf Vd
set_option linter.unusedVariables false
set_option linter.unusedSimpArgs false

theorem asV_yes (w : World) : (Instr.typeAssert (.iface 51 (.agg #[])) 20 51 true).run Tryz.prog w = .ok (.tuple #[.agg #[], .bool true]) w := by kernel_rfl
theorem asV_no (w : World) : (Instr.typeAssert .nilIface 20 51 true).run Tryz.prog w = .ok (.tuple #[.agg #[], .bool false]) w := by kernel_rfl
theorem set10 {W : World} {b : Nat} {x0 y : Value} {t : TypeId} (h : W.heap[b]? = some (.cells #[x0] t (0, 0))) : (W.setCell ⟨b, 0, none⟩ y).heap[b]? = some (.cells #[y] t (0, 0)) := by
  simp only [World.setCell]
  rw [Array.getElem?_modify, if_pos rfl, h]; rfl
theorem set_far {W : World} {b k : Nat} {y : Value} (h : k ≠ b) : (W.setCell ⟨b, 0, none⟩ y).heap[k]? = W.heap[k]? := Below.heap_setCell _ _ _ _ (show k ≠ b from h)
set_option maxRecDepth 100000 in
set_option maxHeartbeats 2000000 in
theorem catchV (B sb ob : Nat) (s0 o0 : Value) (w : World) (hs : w.heap[sb]? = some (.cells #[s0] 9 (0, 0))) (ho : w.heap[ob]? = some (.cells #[o0] 4 (0, 0))) (hne : sb ≠ ob) (h1 : B ≤ sb) (h2 : B ≤ ob) :
    CallsD Tryz.prog 30 #[.pointer (some ⟨sb, 0, none⟩), .pointer (some ⟨ob, 0, none⟩)] (.panicking pnV) w fun e u' w' =>
      e = .returned (.tuple #[]) ∧ u' = .panicking [{ v := .iface 51 (.agg #[]), recovered := true }] ∧ w'.cell? ⟨sb, 0, none⟩ = some (.string ⟨#[]⟩) ∧ w'.cell? ⟨ob, 0, none⟩ = some (.bool false) ∧ Below B w w' := by
  have hcs : w.cell? ⟨sb, 0, none⟩ = some s0 := by rw [Lib.cell_of_heap hs]; rfl
  have hco : w.cell? ⟨ob, 0, none⟩ = some o0 := by rw [Lib.cell_of_heap ho]; rfl
  have hzs := Lib.frozen_of_heap hs 0
  have hzo := Lib.frozen_of_heap ho 0
  have hls := hLt hs
  have hlo := hLt ho
  have HS := hidV hs
  have HO := hidV ho
  clear hs ho
  refine callsD_of_wpS Tryz.func30 rfl fun c₀ cs hu => ?_
  have hu2 : c₀.mode = .panicking [{ v := .iface 51 (.agg #[]), recovered := false }] := hu
  apply wpS_seq
  apply wpS_region
  simp [wpOpsS, go_sem, recoverD, hu2, Tryz.ntmps30, Exit.thenS, asV_yes, Array.replicate]
  refine wpS_of_wp ?_
  go_wp2_with fail
  simp [bodyPostS, results, Tryz.results30]
  have e1 : ((w.setCell ⟨sb, 0, none⟩ (.string ⟨#[]⟩)).setCell ⟨ob, 0, none⟩ (.bool false)).heap[sb]? = some (.cells #[.string ⟨#[]⟩] 9 (0, 0)) := (set_far hne).trans (set10 HS.out)
  have e2 : ((w.setCell ⟨sb, 0, none⟩ (.string ⟨#[]⟩)).setCell ⟨ob, 0, none⟩ (.bool false)).heap[ob]? = some (.cells #[.bool false] 4 (0, 0)) := set10 ((set_far (Ne.symm hne)).trans HO.out)
  generalize hW : (w.setCell ⟨sb, 0, none⟩ (.string ⟨#[]⟩)).setCell ⟨ob, 0, none⟩ (.bool false) = W at *
  have hb : Below B w W := by rw [← hW]; exact ((Below.refl B w).setCell (p := ⟨sb, 0, none⟩) h1 _).setCell (p := ⟨ob, 0, none⟩) h2 _
  have hb2 : Below W.heap.size W (W.alloc (.cells #[] 51)) := belA (Below.refl _ _) _
  refine ⟨?_, ?_, ?_⟩
  · rw [Lib.cell_of_heap ((hb2.block sb (hLt e1)).trans e1)]; rfl
  · rw [Lib.cell_of_heap ((hb2.block ob (hLt e2)).trans e2)]; rfl
  · exact hb.trans (hb2.mono (by have := hLt e1; omega))
set_option maxRecDepth 100000 in
set_option maxHeartbeats 2000000 in
theorem catchI (sb ob : Nat) (w : World) :
    CallsD Tryz.prog 30 #[.pointer (some ⟨sb, 0, none⟩), .pointer (some ⟨ob, 0, none⟩)] .returning w fun e u' w' => e = .returned (.tuple #[]) ∧ u' = .returning ∧ w' = w.alloc (.cells #[] 51) := by
  refine callsD_of_wpS Tryz.func30 rfl fun c₀ cs hu => ?_
  apply wpS_seq
  apply wpS_region
  simp [wpOpsS, go_sem, recoverD, hu, Tryz.ntmps30, Exit.thenS, asV_no, Array.replicate]
  refine wpS_of_wp ?_
  have hy := asV_no
  go_wp2_with fail
  cases c₀
  simp_all [bodyPostS, results, Tryz.results30]
theorem top_is (x : Wv) : netsT x ++ valsT x = topL x := by
  unfold netsT valsT topL
  have e : midT = midU ++ dumpT := rfl
  rw [e]
  simp only [List.append_assoc]
theorem text_ne (x : Wv) : textL x ≠ [] := by
  unfold textL topL headT
  intro h
  cases h
def fitT (x : Wv) : Bool := decide ((textL x).length ≤ maxO)
def wtT (x : Wv) : ByteArray := if fitT x then S (textL x) else ⟨#[]⟩
set_option maxRecDepth 100000 in
set_option maxHeartbeats 8000000 in
theorem written_c (x : Wv) (vn vw vf vl : Value) (w : World) (hx : WvAt w vn vw vf vl x) (hm : Nice x) (hll : x.li.length ≤ 100000000) (hp : PowT w) :
    Calls Tryz.prog 18 #[.agg #[vn, vw, vf, vl]] w fun e w' => e = .returned (.tuple #[.string (wtT x), .bool (fitT x)]) ∧ Below w.heap.size w w' := by
  have hmf : ∀ (fn : Fn) (first cap : Array Value) (w : World), (Instr.makeFunc fn first cap).run Tryz.prog w = .ok (.func fn first cap) w := fun _ _ _ _ => rfl
  obtain ⟨W4, hW4⟩ : ∃ W4, W4 = (((w.alloc (.cells #[vn, vw, vf, vl] 27)).alloc (.cells #[.string ⟨#[]⟩] 9)).alloc (.cells #[.bool false] 4)).alloc (.cells #[.pointer none, .slice none 0 0] 63) := ⟨_, rfl⟩
  have HB4 : Hid (Below w.heap.size w W4) := by rw [hW4]; exact belA (belA (belA (belA (Below.refl _ _) _) _) _) _
  have HE : Hid (W4.heap[w.heap.size]? = some (.cells #[vn, vw, vf, vl] 27 (0, 0))) := by rw [hW4]; exact (alOld (by simp <;> omega)).trans ((alOld (by simp <;> omega)).trans ((alOld (by simp)).trans (alAt rfl)))
  have HSb : Hid (W4.heap[w.heap.size + 1]? = some (.cells #[.string ⟨#[]⟩] 9 (0, 0))) := by rw [hW4]; exact (alOld (by simp <;> omega)).trans ((alOld (by simp)).trans (alAt (by simp)))
  have HOb : Hid (W4.heap[w.heap.size + 1 + 1]? = some (.cells #[.bool false] 4 (0, 0))) := by rw [hW4]; exact (alOld (by simp)).trans (alAt (by simp))
  have HU4 : Hid (Bu (w.heap.size + 1 + 1 + 1) W4 []) := ⟨none, none, 0, 0, Or.inl rfl, by rw [hW4]; exact alAt (by simp), Ob.nil _ _⟩
  obtain ⟨b, hb⟩ : ∃ b, b = w.heap.size + 1 + 1 + 1 := ⟨_, rfl⟩
  have HBb : Hid (b = w.heap.size + 1 + 1 + 1) := hb
  have hwb : w.heap.size ≤ b := by omega
  have HM := hidV hm
  rw [← hb] at HU4
  have HNt := hidV (nets_c x b vn vw vf vl w W4 hx.nm hx.wd HB4.out hwb HU4.out hm hp)
  have HVl : Hid (∀ W, Below w.heap.size w W → Bu b W (netsT x) → (netsT x).length ≤ maxO → Calls Tryz.prog 32 #[.pointer (some ⟨b, 0, none⟩), vf] W fun e w' => Ln b W (topL x) e w') := fun W h1 h2 h3 => by
    have h := values_c x b (netsT x) vf w W hx.fi h1 hwb h2 h3 (by have := HM.out.lf; have := HM.out.ln; omega) (fun i hi => HM.out.fi i (by have := HM.out.lf; omega))
    rw [top_is] at h
    exact h
  have HCh : Hid (∀ W, Below w.heap.size w W → Bu b W (topL x) → (topL x).length ≤ maxO → Calls Tryz.prog 33 #[.pointer (some ⟨b, 0, none⟩), vl] W fun e w' => Ln b W (textL x) e w') := fun W h1 h2 h3 => changesV_c x b (topL x) vl w W hx.li h1 hwb h2 h3 hm hll hp
  have HNe := hidV (text_ne x)
  have HTx : Hid (textL x = topL x ++ listL none x.li) := rfl
  have HTp := hidV (top_is x)
  obtain ⟨fl, hfl⟩ : ∃ q, q = fitT x := ⟨_, rfl⟩
  have HFl : Hid (fl = decide ((textL x).length ≤ maxO)) := hfl
  have HWt : Hid (wtT x = if fl then S (textL x) else ⟨#[]⟩) := by show _ = _; rw [hfl]; rfl
  rw [← hfl]
  clear hfl hx hm hll hp hwb
  generalize wtT x = rt at *
  generalize netsT x = t1 at *
  generalize valsT x = tv at *
  generalize topL x = t2 at *
  generalize textL x = T at *
  obtain ⟨OB, hOB⟩ : ∃ q, q = w.heap.size + 1 + 1 := ⟨_, rfl⟩
  obtain ⟨SB, hSB⟩ : ∃ q, q = w.heap.size + 1 := ⟨_, rfl⟩
  obtain ⟨E, hE⟩ : ∃ q, q = w.heap.size := ⟨_, rfl⟩
  rw [← hOB] at HOb hb
  rw [← hSB] at HSb hOB
  rw [← hE] at HE hSB
  have HEq : Hid (w.heap.size = E ∧ SB = E + 1 ∧ OB = E + 1 + 1 ∧ b = E + 1 + 1 + 1) := ⟨hE.symm, hSB, by rw [hOB, hSB], by rw [hb, hOB, hSB]⟩
  have HWb : Hid (∀ W, Kb b W4 W → Below w.heap.size w W) := fun W hW => Kb.old HB4.out (by have := HEq.out; omega) hW
  have HEw : Hid (∀ W, Kb b W4 W → W.heap[E]? = some (.cells #[vn, vw, vf, vl] 27 (0, 0))) := fun W hW => (hW.low.block E (by have := HEq.out; omega)).trans HE.out
  have HSw : Hid (∀ W, Kb b W4 W → W.heap[SB]? = some (.cells #[.string ⟨#[]⟩] 9 (0, 0))) := fun W hW => (hW.low.block SB (by have := HEq.out; omega)).trans HSb.out
  have HOw : Hid (∀ W, Kb b W4 W → W.heap[OB]? = some (.cells #[.bool false] 4 (0, 0))) := fun W hW => (hW.low.block OB (by have := HEq.out; omega)).trans HOb.out
  have hE2 := hE.symm
  have hSB2 := hSB
  have hOB2 := hOB
  have hb2 := hb
  clear hE hSB hOB hb
  by_cases h1 : t1.length ≤ maxO
  case neg =>
    have HQ : Hid (fl = false ∧ rt = ⟨#[]⟩) := by
      have e : fl = false := by rw [HFl.out]; exact decide_eq_false (by rw [HTx.out, ← HTp.out]; simp only [List.length_append]; omega)
      exact ⟨e, by rw [HWt.out, e]; rfl⟩
    have HC := hidV (calls_no HNt.out (by omega))
    clear h1 HNt HVl HCh
    rw [HQ.out.1, HQ.out.2]
    go_enter_defers Tryz.func18, Tryz.ntmps18
    go_upto_region 3 with fail
    rw [← hW4, ← hSB2, ← hOB2, ← hb2]
    clear hW4 hE2 hSB2 hOB2 hb2
    obtain ⟨b0, b1, b2, b3⟩ := cells4 HE.out
    go_wp2_with (first
      | (go_at_call 31; refine HC.out.mono ?_; rintro e w5 ⟨rfl, hk5⟩; have HK5 := hidV hk5; clear hk5))
    refine leaves_cons (f := 30) (args := #[.pointer (some ⟨SB, 0, none⟩), .pointer (some ⟨OB, 0, none⟩)]) (by simp) (by simp [go_sem]) ?_
    refine (catchV w.heap.size SB OB _ _ w5 (HSw.out _ HK5.out) (HOw.out _ HK5.out) (by have := HEq.out; omega) (by have := HEq.out; omega) (by have := HEq.out; omega)).mono ?_
    rintro e u' w9 ⟨rfl, rfl, hcs, hco, hbe⟩
    have HBe := hidV ((HWb.out _ HK5.out).trans hbe)
    simp [Leaves, settle, results, Tryz.results18, go_sem, hcs, hco]
    exact HBe.out
  have HC1 := hidV (calls_ok HNt.out h1)
  have HQ1 := hidV h1
  by_cases h2 : t2.length ≤ maxO
  case neg =>
    have HQ : Hid (fl = false ∧ rt = ⟨#[]⟩) := by
      have e : fl = false := by rw [HFl.out]; exact decide_eq_false (by rw [HTx.out]; simp only [List.length_append]; omega)
      exact ⟨e, by rw [HWt.out, e]; rfl⟩
    have HC2 : Hid (∀ W, Below w.heap.size w W → Bu b W t1 → Calls Tryz.prog 32 #[.pointer (some ⟨b, 0, none⟩), vf] W fun e w' => e = .panicked pnV ∧ Kb b W w') := fun W a1 a2 => calls_no (HVl.out W a1 a2 HQ1.out) (by omega)
    clear h1 h2 HNt HVl HCh
    rw [HQ.out.1, HQ.out.2]
    go_enter_defers Tryz.func18, Tryz.ntmps18
    go_upto_region 3 with fail
    rw [← hW4, ← hSB2, ← hOB2, ← hb2]
    clear hW4 hE2 hSB2 hOB2 hb2
    obtain ⟨b0, b1, b2, b3⟩ := cells4 HE.out
    go_upto_region 4 with (first
      | (go_at_call 31; refine HC1.out.mono ?_; rintro e w5 ⟨rfl, hu5, hk5⟩))
    have HU5 := hidV hu5
    have HK5 := hidV hk5
    clear hu5 hk5 b0 b1 b2 b3
    obtain ⟨b0, b1, b2, b3⟩ := cells4 (HEw.out _ HK5.out)
    go_wp2_with (first
      | (go_at_call 32; refine (HC2.out _ (HWb.out _ HK5.out) HU5.out).mono ?_; rintro e w6 ⟨rfl, hk6⟩; have HK6 := hidV (HK5.out.trans hk6); clear hk6))
    refine leaves_cons (f := 30) (args := #[.pointer (some ⟨SB, 0, none⟩), .pointer (some ⟨OB, 0, none⟩)]) (by simp) (by simp [go_sem]) ?_
    refine (catchV w.heap.size SB OB _ _ w6 (HSw.out _ HK6.out) (HOw.out _ HK6.out) (by have := HEq.out; omega) (by have := HEq.out; omega) (by have := HEq.out; omega)).mono ?_
    rintro e u' w9 ⟨rfl, rfl, hcs, hco, hbe⟩
    have HBe := hidV ((HWb.out _ HK6.out).trans hbe)
    simp [Leaves, settle, results, Tryz.results18, go_sem, hcs, hco]
    exact HBe.out
  have HC2 : Hid (∀ W, Below w.heap.size w W → Bu b W t1 → Calls Tryz.prog 32 #[.pointer (some ⟨b, 0, none⟩), vf] W fun e w' => e = .returned (.tuple #[]) ∧ Bu b w' t2 ∧ Kb b W w') := fun W a1 a2 => calls_ok (HVl.out W a1 a2 HQ1.out) h2
  have HQ2 := hidV h2
  by_cases h3 : T.length ≤ maxO
  case neg =>
    have HQ : Hid (fl = false ∧ rt = ⟨#[]⟩) := by
      have e : fl = false := by rw [HFl.out]; exact decide_eq_false h3
      exact ⟨e, by rw [HWt.out, e]; rfl⟩
    have HC3 : Hid (∀ W, Below w.heap.size w W → Bu b W t2 → Calls Tryz.prog 33 #[.pointer (some ⟨b, 0, none⟩), vl] W fun e w' => e = .panicked pnV ∧ Kb b W w') := fun W a1 a2 => calls_no (HCh.out W a1 a2 HQ2.out) (by omega)
    clear h1 h2 h3 HNt HVl HCh
    rw [HQ.out.1, HQ.out.2]
    go_enter_defers Tryz.func18, Tryz.ntmps18
    go_upto_region 3 with fail
    rw [← hW4, ← hSB2, ← hOB2, ← hb2]
    clear hW4 hE2 hSB2 hOB2 hb2
    obtain ⟨b0, b1, b2, b3⟩ := cells4 HE.out
    go_upto_region 4 with (first
      | (go_at_call 31; refine HC1.out.mono ?_; rintro e w5 ⟨rfl, hu5, hk5⟩))
    have HU5 := hidV hu5
    have HK5 := hidV hk5
    clear hu5 hk5 b0 b1 b2 b3
    obtain ⟨b0, b1, b2, b3⟩ := cells4 (HEw.out _ HK5.out)
    go_upto_region 5 with (first
      | (go_at_call 32; refine (HC2.out _ (HWb.out _ HK5.out) HU5.out).mono ?_; rintro e w6 ⟨rfl, hu6, hk6⟩))
    have HU6 := hidV hu6
    have HK6 := hidV (HK5.out.trans hk6)
    clear hu6 hk6 b0 b1 b2 b3
    obtain ⟨b0, b1, b2, b3⟩ := cells4 (HEw.out _ HK6.out)
    go_wp2_with (first
      | (go_at_call 33; refine (HC3.out _ (HWb.out _ HK6.out) HU6.out).mono ?_; rintro e w7 ⟨rfl, hk7⟩; have HK7 := hidV (HK6.out.trans hk7); clear hk7))
    refine leaves_cons (f := 30) (args := #[.pointer (some ⟨SB, 0, none⟩), .pointer (some ⟨OB, 0, none⟩)]) (by simp) (by simp [go_sem]) ?_
    refine (catchV w.heap.size SB OB _ _ w7 (HSw.out _ HK7.out) (HOw.out _ HK7.out) (by have := HEq.out; omega) (by have := HEq.out; omega) (by have := HEq.out; omega)).mono ?_
    rintro e u' w9 ⟨rfl, rfl, hcs, hco, hbe⟩
    have HBe := hidV ((HWb.out _ HK7.out).trans hbe)
    simp [Leaves, settle, results, Tryz.results18, go_sem, hcs, hco]
    exact HBe.out
  have HC3 : Hid (∀ W, Below w.heap.size w W → Bu b W t2 → Calls Tryz.prog 33 #[.pointer (some ⟨b, 0, none⟩), vl] W fun e w' => e = .returned (.tuple #[]) ∧ Bu b w' T ∧ Kb b W w') := fun W a1 a2 => calls_ok (HCh.out W a1 a2 HQ2.out) h3
  have HQ : Hid (fl = true ∧ rt = S T) := by
    have e : fl = true := by rw [HFl.out]; exact decide_eq_true h3
    exact ⟨e, by rw [HWt.out, e]; rfl⟩
  have HF : Hid (∀ W, Bu b W T → Calls Tryz.prog 34 #[.pointer (some ⟨b, 0, none⟩)] W fun e w' => e = .returned (.string (S T)) ∧ Kb b W w') := fun W a => wfin_c b T W a HNe.out (by unfold maxO at h3; omega)
  clear h1 h2 h3 HNt HVl HCh
  rw [HQ.out.1, HQ.out.2]
  go_enter_defers Tryz.func18, Tryz.ntmps18
  go_upto_region 3 with fail
  rw [← hW4, ← hSB2, ← hOB2, ← hb2]
  clear hW4 hE2 hSB2 hOB2 hb2
  obtain ⟨b0, b1, b2, b3⟩ := cells4 HE.out
  go_upto_region 4 with (first
    | (go_at_call 31; refine HC1.out.mono ?_; rintro e w5 ⟨rfl, hu5, hk5⟩))
  have HU5 := hidV hu5
  have HK5 := hidV hk5
  clear hu5 hk5 b0 b1 b2 b3
  obtain ⟨b0, b1, b2, b3⟩ := cells4 (HEw.out _ HK5.out)
  go_upto_region 5 with (first
    | (go_at_call 32; refine (HC2.out _ (HWb.out _ HK5.out) HU5.out).mono ?_; rintro e w6 ⟨rfl, hu6, hk6⟩))
  have HU6 := hidV hu6
  have HK6 := hidV (HK5.out.trans hk6)
  clear hu6 hk6 b0 b1 b2 b3
  obtain ⟨b0, b1, b2, b3⟩ := cells4 (HEw.out _ HK6.out)
  go_upto_region 6 with (first
    | (go_at_call 33; refine (HC3.out _ (HWb.out _ HK6.out) HU6.out).mono ?_; rintro e w7 ⟨rfl, hu7, hk7⟩))
  have HU7 := hidV hu7
  have HK7 := hidV (HK6.out.trans hk7)
  clear hu7 hk7 b0 b1 b2 b3
  go_wp2_with (first
    | (go_at_call 34; refine (HF.out _ HU7.out).mono ?_; rintro e w8 ⟨rfl, hk8⟩; have HK8 := hidV (HK7.out.trans hk8); clear hk8; have hs8 := HSw.out _ HK8.out; have ho8 := HOw.out _ HK8.out; have cs8 : w8.cell? ⟨SB, 0, none⟩ = some (.string ⟨#[]⟩) := (by rw [Lib.cell_of_heap hs8]; rfl); have co8 : w8.cell? ⟨OB, 0, none⟩ = some (.bool false) := (by rw [Lib.cell_of_heap ho8]; rfl); have fs8 := Lib.frozen_of_heap hs8 0; have fo8 := Lib.frozen_of_heap ho8 0; have hn8 : OB ≠ SB := (by have := HEq.out; omega); have hx8 : (w8.setCell ⟨SB, 0, none⟩ (.string (S T))).heap[OB]? = some (.cells #[.bool false] 4 (0, 0)) := (set_far hn8).trans ho8; have co9 : (w8.setCell ⟨SB, 0, none⟩ (.string (S T))).cell? ⟨OB, 0, none⟩ = some (.bool false) := (by rw [Lib.cell_of_heap hx8]; rfl); have fo9 := Lib.frozen_of_heap hx8 0; have HS8 := hidV hs8; have HO8 := hidV ho8; clear hs8 ho8 hx8 hn8))
  have hne : SB ≠ OB := by have := HEq.out; omega
  refine leaves_cons (f := 30) (args := #[.pointer (some ⟨SB, 0, none⟩), .pointer (some ⟨OB, 0, none⟩)]) (by simp) (by simp [go_sem]) ?_
  refine (catchI SB OB _).mono ?_
  rintro e u' w9 ⟨rfl, rfl, rfl⟩
  have e1 : ((w8.setCell ⟨SB, 0, none⟩ (.string (S T))).setCell ⟨OB, 0, none⟩ (.bool true)).heap[SB]? = some (.cells #[.string (S T)] 9 (0, 0)) := (set_far hne).trans (set10 HS8.out)
  have e2 : ((w8.setCell ⟨SB, 0, none⟩ (.string (S T))).setCell ⟨OB, 0, none⟩ (.bool true)).heap[OB]? = some (.cells #[.bool true] 4 (0, 0)) := set10 ((set_far (Ne.symm hne)).trans HO8.out)
  have hbs : Below w.heap.size w ((w8.setCell ⟨SB, 0, none⟩ (.string (S T))).setCell ⟨OB, 0, none⟩ (.bool true)) := ((HWb.out _ HK8.out).setCell (p := ⟨SB, 0, none⟩) (by have := HEq.out; show w.heap.size ≤ SB; omega) _).setCell (p := ⟨OB, 0, none⟩) (by have := HEq.out; show w.heap.size ≤ OB; omega) _
  generalize (w8.setCell ⟨SB, 0, none⟩ (.string (S T))).setCell ⟨OB, 0, none⟩ (.bool true) = W at *
  have hb2 : Below W.heap.size W (W.alloc (.cells #[] 51)) := belA (Below.refl _ _) _
  have c1 : (W.alloc (.cells #[] 51)).cell? ⟨SB, 0, none⟩ = some (.string (S T)) := by rw [Lib.cell_of_heap ((hb2.block SB (hLt e1)).trans e1)]; rfl
  have c2 : (W.alloc (.cells #[] 51)).cell? ⟨OB, 0, none⟩ = some (.bool true) := by rw [Lib.cell_of_heap ((hb2.block OB (hLt e2)).trans e2)]; rfl
  have HBe := hidV (bel hbs hb2)
  simp [Leaves, settle, results, Tryz.results18, go_sem, c1, c2]
  exact HBe.out
end Go.Proofs.YtodpljgajjcdoaaGreatDoor

/- Layer 19 of the program: is a text among texts. -/
namespace Go.Proofs.YtodpljgajjcdoaaGreatDoor
set_option maxRecDepth 100000
open Go.RowKit Lg Nl Go.Maps Wf Vd
set_option linter.unusedVariables false
set_option linter.unusedSimpArgs false

/-- the place of the first such text, or -1 -/
def idxS (v : ByteArray) : List ByteArray → Nat → Int
  | [], _ => -1
  | s :: l, i => if L v = L s then (i : Int) else idxS v l (i + 1)
theorem idx_any (v : ByteArray) : ∀ (l : List ByteArray) (i : Nat), decide ((0 : Int) ≤ idxS v l i) = l.any fun s => decide (L v = L s)
  | [], i => rfl
  | s :: l, i => by
    unfold idxS
    by_cases h : L v = L s
    · rw [if_pos h, List.any_cons, decide_eq_true h, Bool.true_or]
      exact decide_eq_true (by omega)
    · rw [if_neg h, List.any_cons, decide_eq_false h, Bool.false_or]
      exact idx_any v l (i + 1)
theorem idx_skip (v : ByteArray) (l : List ByteArray) : ∀ (i : Nat), (∀ j, j < i → j < l.length → L v ≠ L (sA l j)) → i ≤ l.length → idxS v l 0 = idxS v (l.drop i) i
  | 0, _, _ => by rw [List.drop_zero]
  | i + 1, h, hi => by
    rw [idx_skip v l i (fun j hj => h j (by omega)) (by omega)]
    have e : l.drop i = sA l i :: l.drop (i + 1) := by rw [List.drop_eq_getElem_cons (by omega), sA_at (by omega)]
    rw [e]
    show (if L v = L (sA l i) then _ else _) = _
    rw [if_neg (h i (by omega) (by omega))]
set_option maxHeartbeats 1000000 in
theorem index_c (vs : Value) (v : ByteArray) (l : List ByteArray) (w : World) (hx : StrAt w vs l) (hn : l.length ≤ 140737488355328) : Calls Tryz.prog 29 #[vs, .string v] w fun e w' => e = .returned (.int .i64 (idxS v l 0)) ∧ w = w' := by
  have HX := hidV hx
  obtain ⟨ao, cap, rfl, _, _⟩ := hx
  have HN := hidV hn
  clear hn
  go_enter Tryz.func29, Tryz.ntmps29
  go_upto_region 2 with fail
  go_loopg [8] l.length (fun g s wr => ∃ i : Nat, i ≤ l.length ∧ g = l.length - i ∧ s = .int .i64 i ∧ Hid (∀ j, j < i → j < l.length → L v ≠ L (sA l j)) ∧ w = wr)
  case atStart => exact ⟨0, Nat.zero_le _, rfl, rfl, fun j hj => absurd hj (Nat.not_lt_zero _), rfl⟩
  case round =>
    obtain ⟨i, hi, rfl, rfl, HNo, rfl⟩ := hrel
    by_cases hin : i < l.length
    · obtain ⟨gf, of, rfl, hgf, ef⟩ := HX.out.at_ i hin
      have i0 : (0 : Int) ≤ (i : Int) := by omega
      have i1 : (i : Int) < (l.length : Int) := by omega
      have HI := hidV hin
      have HD : Hid (L v = L (sA l i) → idxS v l 0 = (i : Int)) := by
        intro h
        rw [idx_skip v l i HNo.out hi]
        have e : l.drop i = sA l i :: l.drop (i + 1) := by rw [List.drop_eq_getElem_cons hin, sA_at hin]
        rw [e]
        show (if L v = L (sA l i) then _ else _) = _
        rw [if_pos h]
      have HS : Hid (L v ≠ L (sA l i) → ∀ j, j < i + 1 → j < l.length → L v ≠ L (sA l j)) := by
        intro h j hj hjl
        rcases Nat.lt_or_ge j i with e | e
        · exact HNo.out j e hjl
        · rw [show j = i by omega]; exact h
      clear hin hi
      generalize sA l i = s at ef HD HS
      by_cases hc : L v = L s
      · have hc' : (v.toList == s.toList) = true := by rw [beq_iff_eq, toL, toL]; exact hc
        have HY := hidV (HD.out hc)
        clear hc HD HS
        go_wp2_with fail
        go_ret
        exact ⟨by rw [HY.out]; rfl, rfl⟩
      · have hc' : (v.toList == s.toList) = false := by rw [beq_eq_false_iff_ne, toL, toL]; exact hc
        have HY := hidV (HS.out hc)
        clear hc HD HS
        go_wp2_with fail
        go_roundg (l.length - (i + 1))
        case measure => have := HI.out; omega
        case rel => exact ⟨i + 1, HI.out, rfl, wrap_succ (n := 140737488355328) (by have := HI.out; have := HN.out; omega) (by decide), HY.out, rfl⟩
    · have hie : i = l.length := by omega
      have HY : Hid (idxS v l 0 = -1) := by show _ = _; rw [idx_skip v l i HNo.out hi, hie, List.drop_length]; rfl
      have i5 : ¬ (i : Int) < (l.length : Int) := by omega
      clear hin hie hi
      go_wp2_with fail
      go_ret
      exact ⟨by rw [HY.out]; rfl, rfl⟩
theorem contains_c (vs : Value) (v : ByteArray) (l : List ByteArray) (w : World) (hx : StrAt w vs l) (hn : l.length ≤ 140737488355328) : Calls Tryz.prog 17 #[vs, .string v] w fun e w' => e = .returned (.bool (l.any fun s => decide (L v = L s))) ∧ w = w' := by
  have HC := hidV (index_c vs v l w hx hn)
  have HA := hidV (idx_any v l 0)
  generalize idxS v l 0 = z at *
  clear hx hn
  go_enter Tryz.func17, Tryz.ntmps17
  go_wp2_with (first
    | (go_at_call 29; refine HC.out.mono ?_; rintro e w1 ⟨rfl, rfl⟩))
  go_ret
  exact ⟨by rw [← HA.out]; rfl, rfl⟩
theorem und_is (x : Wv) : (x.nm.any fun s => decide (L (⟨#[95]⟩ : ByteArray) = L s)) = undB x := by
  unfold undB
  congr 1
  funext s
  rw [show L (⟨#[95]⟩ : ByteArray) = [95] from rfl]
  exact decide_eq_decide.2 ⟨Eq.symm, Eq.symm⟩
end Go.Proofs.YtodpljgajjcdoaaGreatDoor
