/- Layer 2, the reference: a number's text. -/
import Derived.Test.YtpnhefjiobnelaaGYa
namespace Go.Proofs.Ytpnhefjiobnelaa
open Go.RowKit Lg
set_option linter.unusedVariables false
set_option linter.unusedSimpArgs false

theorem has_snoc (s : ByteArray) (i : Nat) (h : i < s.size) : has39 ((L s).take (i + 1)) = (has39 ((L s).take i) || s[i] == 39) := by
  rw [take_snoc s i h]; unfold has39; rw [List.any_append]; simp
theorem first39 (s : ByteArray) (i : Nat) (h : i < s.size) (h1 : has39 ((L s).take i) = false) (h2 : s[i] = 39) : has39 (L s) = true ∧ (pre39 (L s)).length = i := by
  have e : L s = (L s).take i ++ 39 :: (L s).drop (i + 1) := by rw [← h2, ← drop_cons s i h, List.take_append_drop]
  have hall : ∀ x ∈ (L s).take i, (x != 39) = true := by
    intro x hx
    have : ¬ x = 39 := by
      rintro rfl
      have : has39 ((L s).take i) = true := by unfold has39; rw [List.any_eq_true]; exact ⟨39, hx, by decide⟩
      rw [h1] at this; cases this
    simpa using this
  constructor
  · unfold has39; rw [e, List.any_append]; simp
  · unfold pre39
    rw [e, List.takeWhile_append_of_pos hall]
    simp [len_L]; omega
theorem pos_drop {s : ByteArray} {q : Nat} (h : has39 (L s) = true) (hq : (pre39 (L s)).length = q) : (L s).drop (q + 1) = pos39 (L s) := by
  generalize hp : pre39 (L s) = p at hq
  conv => lhs; rw [is39 h, hp]
  rw [← hq, ← List.drop_drop, List.drop_left]; rfl
theorem digL_len (c : UInt8) (l : List UInt8) : (digL c l).length ≤ 4 * l.length + 31 := by
  unfold digL
  split
  · simp
  split
  · split
    · simp
    · rw [len_ofL]; omega
  split
  · cases h : cat 1 l with
    | none => simp [oS]
    | some b => have := cat_len h; simp [oS]; omega
  split
  · cases h : cat 4 l with
    | none => simp [oS]
    | some b => have := cat_len h; simp [oS]; omega
  · simp
theorem numV_plainN {l : List UInt8} (h : has39 l = false) : numV l = match whV 4294967295 l with | none => none | some n => if 1 < l.length ∧ hd0 l = 48 then none else some (ofL n 32, true) := by
  unfold numV; rw [(no39 h).1, h]
  cases whV 4294967295 l with
  | none => rfl
  | some n => simp only [if_true]
theorem numV_sizedN {l : List UInt8} (h : has39 l = true) : numV l = match whV 4294967295 (pre39 l) with | none => none | some n => if 1 < (pre39 l).length ∧ hd0 (pre39 l) = 48 then none else if n < 1 ∨ 256 < n then none else match pos39 l with | [] => none | c :: r => (basV c r n).map (·, false) := by
  unfold numV; rw [h]
  cases whV 4294967295 (pre39 l) with
  | none => rfl
  | some n => simp only [Bool.true_eq_false, if_false]; rfl

set_option maxHeartbeats 4000000 in
theorem rNumber_c (s : ByteArray) (w : World) (hs : s.size ≤ 2000000) :
    Calls Try.prog 25 #[.string s] w fun e w' => e = .returned (.tuple #[.string (S (numS (L s))), .bool (numP (L s)), .int .i64 (numE2 (L s))]) ∧ Below w.heap.size w w' := by
  have hsm : s.size ≤ maxLen := by unfold maxLen; omega
  go_enter Try.func25, Try.ntmps25
  go_wp2
  go_loop [5, 6] (fun qv iv => ∃ i : Nat, i ≤ s.size ∧ iv = .int .i64 i ∧ ((qv = .int .i64 (-1) ∧ Hid (has39 ((L s).take i) = false)) ∨ (∃ n : Nat, qv = .int .i64 n ∧ n < s.size ∧ Hid (has39 (L s) = true ∧ (pre39 (L s)).length = n)))) (fun _ iv => s.size - (intOf iv).toNat)
  case atStart => exact ⟨0, Nat.zero_le _, rfl, Or.inl ⟨rfl, rfl⟩⟩
  case round =>
    obtain ⟨i, hi, rfl, hq⟩ := hrel
    by_cases hlt : i < s.size
    · rcases hq with ⟨rfl, HF⟩ | ⟨n, rfl, hn, HF⟩
      · by_cases hc : s[i] = 39
        · have hcb : (((s[i].toNat : Nat) : Int) == 39) = true := by rw [hc]; rfl
          have HS : Hid _ := first39 s i hlt HF.out hc
          clear hc
          go_wp2
          go_round
          case rel => exact ⟨i + 1, by omega, by go_num, Or.inr ⟨i, rfl, hlt, HS⟩⟩
          case measure => simp [intOf]; omega
        · have hcb : (((s[i].toNat : Nat) : Int) == 39) = false := (cb s[i] 39).trans (by simpa using hc)
          have HS : Hid (has39 ((L s).take (i + 1)) = false) := by rw [has_snoc s i hlt, HF.out]; simpa [Hid] using hc
          clear hc
          go_wp2
          go_round
          case rel => exact ⟨i + 1, by omega, by go_num, Or.inl ⟨rfl, HS⟩⟩
          case measure => simp [intOf]; omega
      · go_wp2
        go_round
        case rel => exact ⟨i + 1, by omega, by go_num, Or.inr ⟨n, rfl, hn, HF⟩⟩
        case measure => simp [intOf]; omega
    · rcases hq with ⟨rfl, HF⟩ | ⟨n, rfl, hn, HF⟩
      · have hno : has39 (L s) = false := by have := HF.out; rw [take_all s i (by omega)] at this; exact this
        have hnv := numV_plainN hno
        have HDC := fun w => decimal_c s 4294967295 false w hsm (by omega)
        rcases dec_plain (l := L s) with ⟨d1, d2⟩ | ⟨n, d1, d2, d3, d4⟩
        · have hnn : numV (L s) = none := by
            rw [hnv]
            cases hw : whV 4294967295 (L s) with
            | none => rfl
            | some n => show (if _ then _ else _) = _; rw [if_pos (d2 n hw)]
          have HK : Hid _ := num_none hnn
          rw [d1] at HDC
          clear hnv hno d1 d2 hnn HF
          go_wp2_with (first | (go_at_call 40; refine (HDC _).mono ?_; rintro e w' ⟨rfl, rfl⟩))
          go_ret3
          exact ⟨tup3e (by rw [HK.out.1, HK.out.2.1, HK.out.2.2]; exact ⟨rfl, rfl, rfl⟩), Below.refl _ _⟩
        · have hnn : numV (L s) = some (ofL n 32, true) := by rw [hnv, d3]; show (if _ then _ else _) = _; rw [if_neg d4]
          have HK : Hid _ := num_some hnn
          rw [d1] at HDC
          clear hnv hno d1 d3 d4 hnn HF
          go_wp2_with (first | (go_at_call 40; refine (HDC _).mono ?_; rintro e w' ⟨rfl, rfl⟩) | (go_at_call 41; refine (rOf_c n 32 _ (by omega) (by omega) (by omega)).mono ?_; rintro e w' ⟨rfl, hb⟩))
          go_ret3
          exact ⟨tup3e (by rw [HK.out.1, HK.out.2.1, HK.out.2.2, L_S]; exact ⟨rfl, rfl, rfl⟩), by assumption⟩
      · obtain ⟨h39, hpl⟩ := HF.out
        have hnv := numV_sizedN h39
        obtain ⟨h, hh⟩ : ∃ h, s.extract 0 n = h := ⟨_, rfl⟩
        have hLh : L h = pre39 (L s) := by rw [← hh, pre_str h39 hpl, L_S]
        have hhs : h.size ≤ maxLen := by rw [← len_L, hLh, hpl]; unfold maxLen; omega
        have HDC := fun w => decimal_c h 256 false w hhs (by omega)
        rw [hLh] at HDC
        have hpd := pos_drop h39 hpl
        have hnI : (n : Int) ≤ (s.size : Int) := by omega
        rcases dec_wide (l := pre39 (L s)) with ⟨d1, d2⟩ | ⟨k, d1, k1, k2, d3, d4⟩
        · have hnn : numV (L s) = none := by
            rw [hnv]
            cases hw : whV 4294967295 (pre39 (L s)) with
            | none => rfl
            | some n =>
              show (if _ then _ else _) = _
              rcases d2 n hw with e | e
              · rw [if_pos e]
              · by_cases e2 : 1 < (pre39 (L s)).length ∧ hd0 (pre39 (L s)) = 48
                · rw [if_pos e2]
                · rw [if_neg e2, if_pos e]
          have HK : Hid _ := num_none hnn
          obtain ⟨z, hz⟩ : ∃ z, z = decI 256 false (pre39 (L s)) := ⟨_, rfl⟩
          rw [← hz] at HDC d1
          clear hnv h39 hpl hnn HF d2 hz hpd
          go_wp2_with (first | (go_at_call 40; refine (HDC _).mono ?_; rintro e w' ⟨rfl, rfl⟩))
          go_ret3
          exact ⟨tup3e (by rw [HK.out.1, HK.out.2.1, HK.out.2.2]; exact ⟨rfl, rfl, rfl⟩), Below.refl _ _⟩
        · rw [d3] at hnv
          replace hnv : numV (L s) = match pos39 (L s) with | [] => none | c :: r => (basV c r k).map (·, false) := by
            rw [hnv]; show (if _ then _ else _) = _; rw [if_neg d4, if_neg (by omega)]
          rw [d1] at HDC
          by_cases hlast : s.size ≤ n + 1
          · have hpe : pos39 (L s) = [] := by rw [← hpd]; exact drop_all s _ hlast
            have hnn : numV (L s) = none := by rw [hnv, hpe]
            have HK : Hid _ := num_none hnn
            have hl2 : (s.size : Int) ≤ (n : Int) + 1 := by omega
            clear hnv h39 hpl hnn HF hpd hpe d1 d3 d4
            go_wp2_with (first | (go_at_call 40; refine (HDC _).mono ?_; rintro e w' ⟨rfl, rfl⟩))
            go_ret3
            exact ⟨tup3e (by rw [HK.out.1, HK.out.2.1, HK.out.2.2]; exact ⟨rfl, rfl, rfl⟩), Below.refl _ _⟩
          · have hn1 : n + 1 < s.size := by omega
            have hn1I : (n : Int) + 1 < (s.size : Int) := by omega
            have hn2I : (n : Int) + 2 ≤ (s.size : Int) := by omega
            have hn2 : n + 2 ≤ s.size := by omega
            obtain ⟨r, hr⟩ : ∃ r, s.extract (n + 2) s.size = r := ⟨_, rfl⟩
            have hLr : L r = (L s).drop (n + 2) := by rw [← hr, L_extract, List.take_of_length_le (by simp [len_L])]
            have hrs : r.size ≤ 2000000 := by rw [← len_L, hLr, List.length_drop, len_L]; omega
            have hpos : pos39 (L s) = s[n + 1] :: L r := by rw [← hpd, hLr]; exact drop_cons s (n + 1) hn1
            rw [hpos] at hnv
            replace hnv : numV (L s) = (basV s[n + 1] (L r) k).map (·, false) := hnv
            rw [bas_dig k1] at hnv
            obtain ⟨D, hD⟩ : ∃ D, S (digL s[n + 1] (L r)) = D := ⟨_, rfl⟩
            have hLD : L D = digL s[n + 1] (L r) := by rw [← hD, L_S]
            have hDs : D.size ≤ 10000000 := by rw [← len_L, hLD]; have := digL_len s[n + 1] (L r); rw [len_L] at this; omega
            have HDG := fun w => digits_c s[n + 1] r w hrs
            rw [hD] at HDG
            rw [← hLD] at hnv
            clear h39 hpl HF hpd d1 d3 d4 hpos hLr hD hLD hlast
            have v1 : IntKind.i64.wrap ((n : Int) + 1) = (n : Int) + 1 := by rw [IntKind.wrap_i64]; omega
            have v2 : IntKind.i64.wrap ((n : Int) + 2) = (n : Int) + 2 := by rw [IntKind.wrap_i64]; omega
            by_cases hz : D.size = 0
            · have hDe : L D = [] := (empty_L D).2 hz
              rw [if_pos hDe] at hnv
              have HK : Hid _ := num_none (l := L s) hnv
              have hem : D.toList.isEmpty = true := by rw [toL, hDe]; rfl
              clear hnv hDe
              go_wp2_with (first | (go_at_call 40; refine (HDC _).mono ?_; rintro e w' ⟨rfl, hw⟩; have hw2 := hw.symm; subst hw2))
              go_region_with (go_at_call 42; refine (HDG _).mono ?_; rintro e w1 ⟨rfl, hb⟩)
              all_goals go_wp2
              all_goals go_ret3
              all_goals exact ⟨tup3e (by rw [HK.out.1, HK.out.2.1, HK.out.2.2]; exact ⟨rfl, rfl, rfl⟩), belD.trans (by assumption)⟩
            · have hDe : ¬ L D = [] := by rw [empty_L]; exact hz
              have hem : D.toList.isEmpty = false := by rw [toL, List.isEmpty_eq_false_iff]; exact hDe
              have hDp : 0 < D.size := by omega
              have hDm : D.size ≤ maxLen := by unfold maxLen; omega
              rw [if_neg hDe] at hnv
              replace hnv : numV (L s) = some (widL (L D) k, false) := hnv
              have hx1 : (((D[0].toNat : Nat) : Int) == 120) = (hd0 (L D) == 120) := headI D hDp 120
              have hx2 : (((D[0].toNat : Nat) : Int) == 122) = (hd0 (L D) == 122) := headI D hDp 122
              by_cases hA : D.size < k ∧ (hd0 (L D) = 120 ∨ hd0 (L D) = 122)
              · have hwd : widL (L D) k = rep (k - D.size) (hd0 (L D)) ++ L D := by unfold widL; rw [len_L, if_pos hA]
                rw [hwd] at hnv
                have HK : Hid _ := num_some hnv
                obtain ⟨hA1, hA2⟩ := hA
                have key : ∀ w, Calls Try.prog 43 #[.int .u8 ((D[0].toNat : Nat) : Int), .int .i64 ((k : Int) - (D.size : Int))] w fun e w' => e = .returned (.string (S (rep (k - D.size) (hd0 (L D))))) ∧ Below w.heap.size w w' := fun w => by
                  rw [show (k : Int) - (D.size : Int) = ((k - D.size : Nat) : Int) by omega, ← headD_at D hDp]
                  exact rAll_c D[0] (k - D.size) w (by omega)
                obtain ⟨R, hR⟩ : ∃ R, S (rep (k - D.size) (hd0 (L D))) = R := ⟨_, rfl⟩
                have hRs : R.size = k - D.size := by rw [← hR, size_S, len_rep]
                have hRl : L R = rep (k - D.size) (hd0 (L D)) := by rw [← hR, L_S]
                rw [hR] at key
                have HRL : Hid _ := hRl
                have hor : (((D[0].toNat : Nat) : Int) == 120) = true ∨ ((((D[0].toNat : Nat) : Int) == 120) = false ∧ (((D[0].toNat : Nat) : Int) == 122) = true) := by
                  rw [hx1, hx2]
                  rcases hA2 with e | e <;> rw [e] <;> decide
                clear hnv hDe hwd hx1 hx2 hA2 hR hRl
                rcases hor with t1 | ⟨t1, t2⟩
                all_goals
                  go_wp2_with (first | (go_at_call 40; refine (HDC _).mono ?_; rintro e w' ⟨rfl, hw⟩; have hw2 := hw.symm; subst hw2))
                  go_region_with (go_at_call 42; refine (HDG _).mono ?_; rintro e w1 ⟨rfl, hb⟩)
                  all_goals go_wp2_with (first | (go_at_call 43; refine (key _).mono ?_; rintro e w2 ⟨rfl, hb2⟩))
                  all_goals go_ret3
                  all_goals first
                    | (exfalso; omega)
                    | exact ⟨tup3e (by rw [HK.out.1, HK.out.2.1, HK.out.2.2, L_append, HRL.out]; exact ⟨rfl, rfl, rfl⟩), bel (belD.trans (by assumption)) (by assumption)⟩
              · have hwd : widL (L D) k = fit (L D) k := by unfold widL; rw [len_L, if_neg hA]
                rw [hwd] at hnv
                have HK : Hid _ := num_some hnv
                have hor : ¬ D.size < k ∨ (D.size < k ∧ (((D[0].toNat : Nat) : Int) == 120) = false ∧ (((D[0].toNat : Nat) : Int) == 122) = false) := by
                  by_cases e : D.size < k
                  · refine Or.inr ⟨e, ?_, ?_⟩
                    · rw [hx1, beq_eq_false_iff_ne]; exact fun g => hA ⟨e, Or.inl g⟩
                    · rw [hx2, beq_eq_false_iff_ne]; exact fun g => hA ⟨e, Or.inr g⟩
                  · exact Or.inl e
                clear hnv hDe hwd hx1 hx2 hA
                rcases hor with t1 | ⟨t0, t1, t2⟩
                all_goals
                  go_wp2_with (first | (go_at_call 40; refine (HDC _).mono ?_; rintro e w' ⟨rfl, hw⟩; have hw2 := hw.symm; subst hw2))
                  go_region_with (go_at_call 42; refine (HDG _).mono ?_; rintro e w1 ⟨rfl, hb⟩)
                  all_goals go_wp2_with (first | (go_at_call 44; refine (rFit_c D k _ hDm (by omega)).mono ?_; rintro e w2 ⟨rfl, hb2⟩))
                  all_goals go_ret3
                  all_goals exact ⟨tup3e (by rw [HK.out.1, HK.out.2.1, HK.out.2.2, L_S]; exact ⟨rfl, rfl, rfl⟩), bel (belD.trans (by assumption)) (by assumption)⟩
end Go.Proofs.Ytpnhefjiobnelaa
