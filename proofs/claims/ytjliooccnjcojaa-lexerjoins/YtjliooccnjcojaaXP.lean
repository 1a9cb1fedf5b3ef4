/- Layer 2: two sources have the tokens of both. -/
import Derived.Test.YtjliooccnjcojaaXM
import Derived.Test.YtjliooccnjcojaaMathR
namespace Go.Proofs.Ytjliooccnjcojaa
open Go.RowKit Lg
set_option linter.unusedVariables false
set_option linter.unusedSimpArgs false

theorem okT_len {l : List UInt8} : ∀ {e : Nat} {ts : List Tok}, okT l e ts → e ≤ l.length → e + ts.length ≤ l.length := by
  intro e ts
  induction ts generalizing e with
  | nil => intro _ he; simpa using he
  | cons t ts ih =>
    intro h he
    obtain ⟨h1, h2, h3, _, _, h6⟩ := h
    have := ih h6 h3
    rw [List.length_cons]; omega
theorem okT_le {l : List UInt8} : ∀ {e : Nat} {ts : List Tok}, okT l e ts → ∀ t ∈ ts, t.p ≤ l.length := by
  intro e ts
  induction ts generalizing e with
  | nil => intro _ t ht; cases ht
  | cons a ts ih =>
    intro h t ht
    obtain ⟨h1, h2, h3, _, _, h6⟩ := h
    rcases List.mem_cons.1 ht with rfl | ht
    · omega
    · exact ih h6 t ht
theorem toks_len {l : List UInt8} {t : List Tok} (h : lexL l = .toks t) : t.length ≤ l.length + 1 := by
  obtain ⟨ts, rfl, hok⟩ := places_toks h
  have := okT_len hok (Nat.zero_le _)
  rw [List.length_append]; simp; omega
theorem toks_le {l : List UInt8} {t : List Tok} (h : lexL l = .toks t) : ∀ x ∈ t, x.p ≤ l.length := by
  obtain ⟨ts, rfl, hok⟩ := places_toks h
  intro x hx
  rcases List.mem_append.1 hx with hx | hx
  · exact okT_le hok x hx
  · rw [List.mem_singleton] at hx; subst hx; exact Nat.le_refl _
theorem Lex_any (s : ByteArray) (m : Int) (w : World) (hs : s.size ≤ maxLen) (hm : w.cell? ⟨0, 0, none⟩ = some (.int .i64 m)) (h0 : 0 < w.heap.size) :
    Calls Try.prog 9 #[.string s] w fun e w' => ∃ ao n cap bo k c2, e = .returned (.tuple #[.slice ao n cap, .slice bo k c2]) ∧ Below w.heap.size w w' := by
  cases hl : lexL (L s) with
  | toks l =>
    refine (Lex_t s m w hs hm h0 l hl).mono ?_
    rintro e w' ⟨g, cap, rfl, _, hb⟩
    exact ⟨_, _, _, _, _, _, rfl, hb⟩
  | bad p c =>
    refine (Lex_b s m w hs hm h0 p c hl).mono ?_
    rintro e w' ⟨g, rfl, _, hb⟩
    exact ⟨_, _, _, _, _, _, rfl, hb⟩

set_option maxHeartbeats 2000000 in
theorem joins_long (s t : ByteArray) (m : Int) (w : World) (hs : s.size ≤ maxLen) (ht : t.size ≤ maxLen) (hl : 16384 < s.size ∨ (s.size ≤ 16384 ∧ 16384 < t.size)) (hm : w.cell? ⟨0, 0, none⟩ = some (.int .i64 m)) (h0 : 0 < w.heap.size) :
    Calls Try.prog 6 #[.string s, .string t] w fun e w' => e = .returned (.bool true) ∧ Below w.heap.size w w' := by
  unfold maxLen at hs ht
  rcases hl with h | ⟨h, h2⟩
  all_goals
    go_enter Try.func6, Try.ntmps6
    go_wp2_with (first | (go_at_call 13; refine (awake_c m _ hm h0).mono ?_; rintro e w3 ⟨rfl, hb3⟩))
    go_ret
    exact ⟨rfl, hb3⟩

theorem str1 (s : ByteArray) : L (s ++ (⟨#[10]⟩ : ByteArray)) = L s ++ [10] := by rw [L_append]; rfl
theorem str3 (s t : ByteArray) : L (s ++ (⟨#[10]⟩ : ByteArray) ++ t) = L s ++ 10 :: L t := by rw [L_append, str1, List.append_assoc]; rfl
theorem sz1 (s : ByteArray) : (s ++ (⟨#[10]⟩ : ByteArray)).size = s.size + 1 := by rw [ByteArray.size_append]; rfl

set_option maxRecDepth 100000 in
set_option maxHeartbeats 4000000 in
theorem joins_no (s t : ByteArray) (m : Int) (w : World) (hs : s.size ≤ 16384) (ht : t.size ≤ 16384) (hm : w.cell? ⟨0, 0, none⟩ = some (.int .i64 m)) (h0 : 0 < w.heap.size)
    (hno : (∃ p c, lexL (L s ++ [10]) = .bad p c) ∨ (∃ a, lexL (L s ++ [10]) = .toks a ∧ ((∃ p c, lexL (L t) = .bad p c) ∨ ∃ b, lexL (L t) = .toks b ∧ 16384 < a.length + b.length))) :
    Calls Try.prog 6 #[.string s, .string t] w fun e w' => e = .returned (.bool true) ∧ Below w.heap.size w w' := by
  obtain ⟨S1, hS1⟩ : ∃ S1, s ++ (⟨#[10]⟩ : ByteArray) = S1 := ⟨_, rfl⟩
  obtain ⟨S3, hS3⟩ : ∃ S3, S1 ++ t = S3 := ⟨_, rfl⟩
  have hz1 : S1.size = s.size + 1 := by rw [← hS1]; exact sz1 s
  have hL1 : L S1 = L s ++ [10] := by rw [← hS1]; exact str1 s
  have hm1 : S1.size ≤ maxLen := by unfold maxLen; omega
  have hmt : t.size ≤ maxLen := by unfold maxLen; omega
  have hm3 : S3.size ≤ maxLen := by rw [← hS3, ByteArray.size_append]; unfold maxLen; omega
  rw [← hL1] at hno
  clear hL1
  have hcell : ∀ w1, Below w.heap.size w w1 → w1.cell? ⟨0, 0, none⟩ = some (.int .i64 m) ∧ 0 < w1.heap.size := fun w1 hb => ⟨(hb.cell (p := ⟨0, 0, none⟩) h0).trans hm, Nat.lt_of_lt_of_le h0 hb.size⟩
  have HCE : Hid _ := hcell
  clear hcell
  have run : Below w.heap.size w w := Below.refl _ _
  rcases hno with ⟨p, c, ha⟩ | ⟨a, ha, ⟨p, c, hb⟩ | ⟨b, hb, hab⟩⟩
  · go_enter Try.func6, Try.ntmps6
    go_wp2_with (first
      | (go_at_call_of 9 (Value.string S1); refine (Lex_b S1 m _ hm1 (HCE.out _ run).1 (HCE.out _ run).2 p c ha).mono ?_; rintro e w1 ⟨g, rfl, _, hb1⟩; replace run := bel run hb1)
      | (go_at_call_of 9 (Value.string t); refine (Lex_any t m _ hmt (HCE.out _ run).1 (HCE.out _ run).2).mono ?_; rintro e w1 ⟨_, _, _, _, _, _, rfl, hb1⟩; replace run := bel run hb1)
      | (go_at_call 9; refine (Lex_any S3 m _ hm3 (HCE.out _ run).1 (HCE.out _ run).2).mono ?_; rintro e w1 ⟨_, _, _, _, _, _, rfl, hb1⟩; replace run := bel run hb1)
      | (go_at_call 13; refine (awake_c m _ (HCE.out _ run).1 (HCE.out _ run).2).mono ?_; rintro e w3 ⟨rfl, hb3⟩; replace run := bel run hb3))
    go_ret
    exact ⟨rfl, run⟩
  · go_enter Try.func6, Try.ntmps6
    go_wp2_with (first
      | (go_at_call_of 9 (Value.string S1); refine (Lex_t S1 m _ hm1 (HCE.out _ run).1 (HCE.out _ run).2 a ha).mono ?_; rintro e w1 ⟨g, cap, rfl, hli, hb1⟩; replace run := bel run hb1)
      | (go_at_call_of 9 (Value.string t); refine (Lex_b t m _ hmt (HCE.out _ run).1 (HCE.out _ run).2 p c hb).mono ?_; rintro e w1 ⟨g2, rfl, _, hb1⟩; replace run := bel run hb1)
      | (go_at_call 9; refine (Lex_any S3 m _ hm3 (HCE.out _ run).1 (HCE.out _ run).2).mono ?_; rintro e w1 ⟨_, _, _, _, _, _, rfl, hb1⟩; replace run := bel run hb1)
      | (go_at_call 13; refine (awake_c m _ (HCE.out _ run).1 (HCE.out _ run).2).mono ?_; rintro e w3 ⟨rfl, hb3⟩; replace run := bel run hb3))
    go_ret
    exact ⟨rfl, run⟩
  · have hal := toks_len ha
    have hbl := toks_len hb
    rw [len_L] at hal hbl
    have hle : (16384 : Int) < (a.length : Int) + (b.length : Int) := by omega
    go_enter Try.func6, Try.ntmps6
    go_wp2_with (first
      | (go_at_call_of 9 (Value.string S1); refine (Lex_t S1 m _ hm1 (HCE.out _ run).1 (HCE.out _ run).2 a ha).mono ?_; rintro e w1 ⟨g, cap, rfl, hli, hb1⟩; replace run := bel run hb1)
      | (go_at_call_of 9 (Value.string t); refine (Lex_t t m _ hmt (HCE.out _ run).1 (HCE.out _ run).2 b hb).mono ?_; rintro e w1 ⟨g2, cap2, rfl, hli2, hb1⟩; replace run := bel run hb1)
      | (go_at_call 9; refine (Lex_any S3 m _ hm3 (HCE.out _ run).1 (HCE.out _ run).2).mono ?_; rintro e w1 ⟨_, _, _, _, _, _, rfl, hb1⟩; replace run := bel run hb1)
      | (go_at_call 13; refine (awake_c m _ (HCE.out _ run).1 (HCE.out _ run).2).mono ?_; rintro e w3 ⟨rfl, hb3⟩; replace run := bel run hb3))
    go_ret
    exact ⟨rfl, run⟩

set_option maxRecDepth 100000 in
set_option maxHeartbeats 8000000 in
theorem joins_yes (s t : ByteArray) (m : Int) (w : World) (hs : s.size ≤ 16384) (ht : t.size ≤ 16384) (hm : w.cell? ⟨0, 0, none⟩ = some (.int .i64 m)) (h0 : 0 < w.heap.size)
    (a b : List Tok) (ha : lexL (L s ++ [10]) = .toks a) (hb : lexL (L t) = .toks b) (hab : a.length + b.length ≤ 16384) :
    Calls Try.prog 6 #[.string s, .string t] w fun e w' => e = .returned (.bool true) ∧ Below w.heap.size w w' := by
  obtain ⟨S1, hS1⟩ : ∃ S1, s ++ (⟨#[10]⟩ : ByteArray) = S1 := ⟨_, rfl⟩
  obtain ⟨S3, hS3⟩ : ∃ S3, S1 ++ t = S3 := ⟨_, rfl⟩
  have hz1 : S1.size = s.size + 1 := by rw [← hS1]; exact sz1 s
  have hL1 : L S1 = L s ++ [10] := by rw [← hS1]; exact str1 s
  have hL3 : L S3 = L s ++ 10 :: L t := by rw [← hS3, ← hS1]; exact str3 s t
  have hm1 : S1.size ≤ maxLen := by unfold maxLen; omega
  have hmt : t.size ≤ maxLen := by unfold maxLen; omega
  have hm3 : S3.size ≤ maxLen := by rw [← hS3, ByteArray.size_append]; unfold maxLen; omega
  have hble := toks_le hb
  obtain ⟨A, B, eA, eB, hc⟩ := joins ha hb hab (by rw [List.length_append, List.length_cons, len_L, len_L]; omega)
  rw [← eB] at hc
  rw [len_L] at hble hc
  rw [← hL1] at ha
  rw [← hL3] at hc
  obtain ⟨na, hna⟩ : ∃ na, A.length = na := ⟨_, rfl⟩
  obtain ⟨nb, hnb⟩ : ∃ nb, B.length = nb := ⟨_, rfl⟩
  have hla : a.length = na + 1 := by rw [eA, List.length_append, hna]; rfl
  have hlb : b.length = nb + 1 := by rw [eB, List.length_append, hnb]; rfl
  have hlc : (A ++ b.map (shf (s.size + 1))).length = na + nb + 1 := by rw [List.length_append, List.length_map, hlb, hna]; omega
  have hn : na + nb + 2 ≤ 16384 := by omega
  have ga : ∀ i, i < na → ∃ x : Tok, a[i]? = some x ∧ (A ++ b.map (shf (s.size + 1)))[i]? = some x := by
    intro i hi
    have h1 : i < A.length := by omega
    exact ⟨A[i], by rw [eA, List.getElem?_append_left h1]; exact List.getElem?_eq_getElem h1, by rw [List.getElem?_append_left h1]; exact List.getElem?_eq_getElem h1⟩
  have gb : ∀ j, j < nb + 1 → ∃ x : Tok, b[j]? = some x ∧ (A ++ b.map (shf (s.size + 1)))[na + j]? = some (shf (s.size + 1) x) ∧ x.p ≤ t.size := by
    intro j hj
    have h1 : j < b.length := by omega
    refine ⟨b[j], List.getElem?_eq_getElem h1, ?_, hble _ (List.getElem_mem h1)⟩
    rw [List.getElem?_append_right (by omega), hna, show na + j - na = j by omega, List.getElem?_map, List.getElem?_eq_getElem h1]; rfl
  have HGA : Hid _ := ga
  have HGB : Hid _ := gb
  obtain ⟨C, hC⟩ : ∃ C, C = A ++ b.map (shf (s.size + 1)) := ⟨_, rfl⟩
  rw [← hC] at hc hlc HGA HGB
  clear ga gb hC eA eB hna hnb hble hL1 hL3
  have HT1 := fun w h1 h2 => Lex_t S1 m w hm1 h1 h2 a ha
  have HT2 := fun w h1 h2 => Lex_t t m w hmt h1 h2 b hb
  have HT3 := fun w h1 h2 => Lex_t S3 m w hm3 h1 h2 C hc
  rw [hla] at HT1
  rw [hlb] at HT2
  rw [hlc] at HT3
  clear ha hb hc hla hlb hlc hab
  have hcell : ∀ w1, Below w.heap.size w w1 → w1.cell? ⟨0, 0, none⟩ = some (.int .i64 m) ∧ 0 < w1.heap.size := fun w1 hb => ⟨(hb.cell (p := ⟨0, 0, none⟩) h0).trans hm, Nat.lt_of_lt_of_le h0 hb.size⟩
  have HCE : Hid _ := hcell
  clear hcell
  have run : Below w.heap.size w w := Below.refl _ _
  have k1 : ((na : Int) + 1 == 0) = false := by rw [beq_eq_false_iff_ne]; omega
  have k2 : ((nb : Int) + 1 == 0) = false := by rw [beq_eq_false_iff_ne]; omega
  have k3 : ((na : Int) + (nb : Int) + 1 != (na : Int) + 1 + ((nb : Int) + 1) - 1) = false := by
    rw [show (na : Int) + 1 + ((nb : Int) + 1) - 1 = (na : Int) + (nb : Int) + 1 by omega]; simp
  have b1 : decide ((16384 : Int) < (s.size : Int)) = false := by simp; omega
  have b2 : decide ((16384 : Int) < (t.size : Int)) = false := by simp; omega
  have b3 : decide ((16384 : Int) < (na : Int) + 1 + ((nb : Int) + 1)) = false := by simp; omega
  go_enter Try.func6, Try.ntmps6
  go_wp2_with (first
    | (go_at_call_of 9 (Value.string S1); refine (HT1 _ (HCE.out _ run).1 (HCE.out _ run).2).mono ?_; rintro e w1 ⟨g1, cap1, rfl, hli1, hb1⟩; replace run := bel run hb1)
    | (go_at_call_of 9 (Value.string t); refine (HT2 _ (HCE.out _ run).1 (HCE.out _ run).2).mono ?_; rintro e w2 ⟨g2, cap2, rfl, hli2, hb2⟩; replace run := bel run hb2; replace hli1 := hli1.keep hb2)
    | (go_at_call 9; refine (HT3 _ (HCE.out _ run).1 (HCE.out _ run).2).mono ?_; rintro e w3 ⟨g3, cap3, rfl, hli3, hb3⟩; replace run := bel run hb3; replace hli1 := hli1.keep hb3; replace hli2 := hli2.keep hb3))
  go_loopw [11] (fun iv wr => ∃ i : Nat, i ≤ na + nb + 1 ∧ iv = .int .i64 i ∧ Hid (Lie wr w.heap.size g1 cap1 a) ∧ Hid (Lie wr w1.heap.size g2 cap2 b) ∧ Hid (Lie wr w2.heap.size g3 cap3 C) ∧ Hid (Below w.heap.size w wr)) (fun iv _ => na + nb + 1 - (intOf iv).toNat)
  case atStart => exact ⟨0, Nat.zero_le _, rfl, hli1, hli2, hli3, run⟩
  case round =>
    obtain ⟨i, hi, rfl, H1, H2, H3, HB⟩ := hrel
    have hend : ∀ w', Below wr.heap.size wr w' → Lie w' w.heap.size g1 cap1 a ∧ Lie w' w1.heap.size g2 cap2 b ∧ Lie w' w2.heap.size g3 cap3 C ∧ Below w.heap.size w w' := fun w' hb => ⟨H1.out.keep hb, H2.out.keep hb, H3.out.keep hb, bel HB.out hb⟩
    have HEND : Hid _ := hend
    have l1 := H1.out.lt
    have l2 := H2.out.lt
    have l3 := H3.out.lt
    clear hend
    by_cases hlt : i < na + nb + 1
    · have hltI : (i : Int) < (na : Int) + (nb : Int) + 1 := by omega
      by_cases hia : i < na
      · obtain ⟨⟨k, x, p⟩, e1, e3⟩ := HGA.out i hia
        obtain ⟨q0, q1, q2⟩ := H1.out.get e1
        obtain ⟨r0, r1, r2⟩ := H3.out.get e3
        obtain ⟨sx, hsx⟩ : ∃ sx, sx = S x := ⟨_, rfl⟩
        replace q0 : wr.cell? ⟨g1, i * 3, none⟩ = some (.int .i64 k) := q0
        replace q1 : wr.cell? ⟨g1, i * 3 + 1, none⟩ = some (.string sx) := by rw [hsx]; exact q1
        replace q2 : wr.cell? ⟨g1, i * 3 + 2, none⟩ = some (.int .i64 p) := q2
        replace r0 : wr.cell? ⟨g3, i * 3, none⟩ = some (.int .i64 k) := r0
        replace r1 : wr.cell? ⟨g3, i * 3 + 1, none⟩ = some (.string sx) := by rw [hsx]; exact r1
        replace r2 : wr.cell? ⟨g3, i * 3 + 2, none⟩ = some (.int .i64 p) := r2
        clear e1 e3 hsx
        go_wp2
        go_region
        all_goals go_wp2
        all_goals
          go_roundw
          case rel =>
            refine ⟨i + 1, by omega, by go_num, (HEND.out _ ?hB).1, (HEND.out _ ?hB).2.1, (HEND.out _ ?hB).2.2.1, (HEND.out _ ?hB).2.2.2⟩
            repeat (first | exact Below.refl _ _ | refine Below.drew ?_ | refine Below.setCell ?_ (by simp) _ | refine Below.alloc ?_ (by simp) _)
          case measure => simp [intOf]; omega
      · obtain ⟨j, hj⟩ : ∃ j, i = na + j := ⟨i - na, by omega⟩
        obtain ⟨⟨k, x, p⟩, e2, e3, hp⟩ := HGB.out j (by omega)
        rw [← hj] at e3
        obtain ⟨q0, q1, q2⟩ := H2.out.get e2
        obtain ⟨r0, r1, r2⟩ := H3.out.get e3
        obtain ⟨sx, hsx⟩ : ∃ sx, sx = S x := ⟨_, rfl⟩
        replace hp : p ≤ t.size := hp
        replace q0 : wr.cell? ⟨g2, j * 3, none⟩ = some (.int .i64 k) := q0
        replace q1 : wr.cell? ⟨g2, j * 3 + 1, none⟩ = some (.string sx) := by rw [hsx]; exact q1
        replace q2 : wr.cell? ⟨g2, j * 3 + 2, none⟩ = some (.int .i64 p) := q2
        replace r0 : wr.cell? ⟨g3, i * 3, none⟩ = some (.int .i64 k) := r0
        replace r1 : wr.cell? ⟨g3, i * 3 + 1, none⟩ = some (.string sx) := by rw [hsx]; exact r1
        replace r2 : wr.cell? ⟨g3, i * 3 + 2, none⟩ = some (.int .i64 ((p : Int) + (s.size : Int) + 1)) := by
          have e : ((p : Int) + (s.size : Int) + 1) = ((p + (s.size + 1) : Nat) : Int) := by omega
          rw [e]; exact r2
        have hij : (i : Int) - ((na : Int) + 1) + 1 = (j : Int) := by omega
        have hjI : (j : Int) < (nb : Int) + 1 := by omega
        have hj2 : j < nb + 1 := by omega
        clear e2 e3 hsx hj
        go_wp2
        go_region
        all_goals go_wp2
        all_goals
          go_roundw
          case rel =>
            refine ⟨i + 1, by omega, by go_num, (HEND.out _ ?hB2).1, (HEND.out _ ?hB2).2.1, (HEND.out _ ?hB2).2.2.1, (HEND.out _ ?hB2).2.2.2⟩
            repeat (first | exact Below.refl _ _ | refine Below.drew ?_ | refine Below.setCell ?_ (by simp) _ | refine Below.alloc ?_ (by simp) _)
          case measure => simp [intOf]; omega
    · have hm1 := HCE.out _ HB.out
      go_wp2_with (first | (go_at_call 13; refine (awake_c m _ hm1.1 hm1.2).mono ?_; rintro e w4 ⟨rfl, hb4⟩))
      go_ret
      exact ⟨rfl, bel HB.out hb4⟩

theorem LexerJoins_c (s t : ByteArray) (m : Int) (w : World) (hs : s.size ≤ maxLen) (ht : t.size ≤ maxLen) (hm : w.cell? ⟨0, 0, none⟩ = some (.int .i64 m)) (h0 : 0 < w.heap.size) :
    Calls Try.prog 6 #[.string s, .string t] w fun e w' => e = .returned (.bool true) ∧ Below w.heap.size w w' := by
  by_cases hl : 16384 < s.size ∨ (s.size ≤ 16384 ∧ 16384 < t.size)
  · exact joins_long s t m w hs ht hl hm h0
  · have h1 : s.size ≤ 16384 := by omega
    have h2 : t.size ≤ 16384 := by omega
    cases ha : lexL (L s ++ [10]) with
    | bad p c => exact joins_no s t m w h1 h2 hm h0 (Or.inl ⟨p, c, ha⟩)
    | toks a =>
      cases hb : lexL (L t) with
      | bad p c => exact joins_no s t m w h1 h2 hm h0 (Or.inr ⟨a, ha, Or.inl ⟨p, c, hb⟩⟩)
      | toks b =>
        by_cases hab : 16384 < a.length + b.length
        · exact joins_no s t m w h1 h2 hm h0 (Or.inr ⟨a, ha, Or.inr ⟨b, hb, hab⟩⟩)
        · exact joins_yes s t m w h1 h2 hm h0 a b ha hb (by omega)
end Go.Proofs.Ytjliooccnjcojaa
