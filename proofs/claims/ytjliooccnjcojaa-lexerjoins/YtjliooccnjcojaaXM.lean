/- Layer 2: tokens stand in the order of their places. -/
import Derived.Test.YtjliooccnjcojaaXL
import Derived.Test.YtjliooccnjcojaaMathP
namespace Go.Proofs.Ytjliooccnjcojaa
open Go.RowKit Lg
set_option linter.unusedVariables false
set_option linter.unusedSimpArgs false

theorem tcell_at {l : List Tok} {i : Nat} {t : Tok} (h : l[i]? = some t) : (tcells l)[i * 3]? = some (.int .i64 t.k) ∧ (tcells l)[i * 3 + 1]? = some (.string (S t.x)) ∧ (tcells l)[i * 3 + 2]? = some (.int .i64 t.p) := by
  induction l generalizing i with
  | nil => cases h
  | cons a l ih =>
    have e : tcells (a :: l) = tcell a ++ tcells l := rfl
    have el : (tcell a).length = 3 := rfl
    cases i with
    | zero =>
      simp at h; subst h
      exact ⟨rfl, rfl, rfl⟩
    | succ i =>
      have := ih (i := i) (by simpa using h)
      rw [e]
      refine ⟨?_, ?_, ?_⟩
      · rw [List.getElem?_append_right (by rw [el]; omega), el, show (i + 1) * 3 - 3 = i * 3 by omega]; exact this.1
      · rw [List.getElem?_append_right (by rw [el]; omega), el, show (i + 1) * 3 + 1 - 3 = i * 3 + 1 by omega]; exact this.2.1
      · rw [List.getElem?_append_right (by rw [el]; omega), el, show (i + 1) * 3 + 2 - 3 = i * 3 + 2 by omega]; exact this.2.2
theorem Lie.get {w : World} {B g cap : Nat} {l : List Tok} (h : Lie w B g cap l) {i : Nat} {t : Tok} (hi : l[i]? = some t) :
    w.cell? ⟨g, i * 3, none⟩ = some (.int .i64 t.k) ∧ w.cell? ⟨g, i * 3 + 1, none⟩ = some (.string (S t.x)) ∧ w.cell? ⟨g, i * 3 + 2, none⟩ = some (.int .i64 t.p) := by
  obtain ⟨a, b, c⟩ := tcell_at hi
  exact ⟨h.at_ _ _ a, h.at_ _ _ b, h.at_ _ _ c⟩

set_option maxHeartbeats 2000000 in
theorem places_b (s : ByteArray) (m : Int) (w : World) (hs : s.size ≤ maxLen) (hm : w.cell? ⟨0, 0, none⟩ = some (.int .i64 m)) (h0 : 0 < w.heap.size) (p : Nat) (c : Int) (hl : lexL (L s) = .bad p c) :
    Calls Try.prog 5 #[.string s] w fun e w' => e = .returned (.bool true) ∧ Below w.heap.size w w' := by
  have HL := Lex_b s m w hs hm h0 p c hl
  obtain ⟨hp, hc⟩ := places_bad hl
  rw [len_L] at hp
  have hc1 : (c != 0) = true := by simpa using hc
  clear hl hc
  unfold maxLen at hs
  have hp2 : p < s.size ∨ (p = 0 ∧ s.size = 0) := by omega
  clear hp
  rcases hp2 with hp | ⟨hp, hz⟩
  · go_enter Try.func5, Try.ntmps5
    go_wp2_with (first
      | (go_at_call 9; refine HL.mono ?_; rintro e w1 ⟨g, rfl, ⟨hg, hgl, d0, d1⟩, hb1⟩; have hm1 := (hb1.cell (p := ⟨0, 0, none⟩) h0).trans hm)
      | (go_at_call 13; refine (awake_c m _ hm1 (Nat.lt_of_lt_of_le h0 hb1.size)).mono ?_; rintro e w2 ⟨rfl, hb2⟩))
    go_ret
    exact ⟨rfl, bel hb1 hb2⟩
  · subst hp
    go_enter Try.func5, Try.ntmps5
    go_wp2_with (first
      | (go_at_call 9; refine HL.mono ?_; rintro e w1 ⟨g, rfl, ⟨hg, hgl, d0, d1⟩, hb1⟩; have hm1 := (hb1.cell (p := ⟨0, 0, none⟩) h0).trans hm)
      | (go_at_call 13; refine (awake_c m _ hm1 (Nat.lt_of_lt_of_le h0 hb1.size)).mono ?_; rintro e w2 ⟨rfl, hb2⟩))
    go_ret
    exact ⟨rfl, bel hb1 hb2⟩

set_option maxRecDepth 100000 in
set_option maxHeartbeats 4000000 in
theorem places_t (s : ByteArray) (m : Int) (w : World) (hs : s.size ≤ maxLen) (hm : w.cell? ⟨0, 0, none⟩ = some (.int .i64 m)) (h0 : 0 < w.heap.size) (t : List Tok) (hl : lexL (L s) = .toks t) :
    Calls Try.prog 5 #[.string s] w fun e w' => e = .returned (.bool true) ∧ Below w.heap.size w w' := by
  have HL := Lex_t s m w hs hm h0 t hl
  obtain ⟨ts, rfl, hok⟩ := places_toks hl
  rw [len_L] at HL
  clear hl
  unfold maxLen at hs
  obtain ⟨n, hn⟩ : ∃ n, ts.length = n := ⟨_, rfl⟩
  rw [show (ts ++ [(⟨6, [], s.size⟩ : Tok)]).length = n + 1 by simp [hn]] at HL
  have HLAST : Hid ((ts ++ [(⟨6, [], s.size⟩ : Tok)])[n]? = some ⟨6, [], s.size⟩) := by rw [← hn]; simp [Hid]
  have HOK : Hid (okT (L s) 0 ts) := hok
  have HN : Hid (ts.length = n) := hn
  have hz0 : (((n : Nat) : Int) + 1 == 0) = false := by rw [beq_eq_false_iff_ne]; omega
  clear hn hok
  go_enter Try.func5, Try.ntmps5
  go_wp2_with (first
    | (go_at_call 9; refine HL.mono ?_; rintro e w1 ⟨g, cap, rfl, hlie, hb1⟩; obtain ⟨d0, d1, d2⟩ := hlie.get HLAST.out; replace d1 : w1.cell? ⟨g, n * 3 + 1, none⟩ = some (.string ⟨#[]⟩) := d1; have hsm := hlie.cap.2; rw [show (ts ++ [(⟨6, [], s.size⟩ : Tok)]).length = n + 1 by simp [HN.out]] at hsm))
  go_loopw [5, 6] (fun ev iv wr => ∃ e i : Nat, i ≤ n ∧ iv = .int .i64 i ∧ ev = .int .i64 e ∧ e ≤ s.size ∧ Hid (okT (L s) e (ts.drop i)) ∧ Hid (Lie wr w.heap.size g cap (ts ++ [⟨6, [], s.size⟩])) ∧ Hid (Below w.heap.size w wr)) (fun _ iv _ => n - (intOf iv).toNat)
  case atStart => exact ⟨0, 0, Nat.zero_le _, rfl, rfl, Nat.zero_le _, HOK, hlie, hb1⟩
  case round =>
    obtain ⟨e, i, hi, rfl, rfl, he, HE, HLi, HB⟩ := hrel
    by_cases hlt : i < n
    · have hlt2 : i < ts.length := by rw [HN.out]; exact hlt
      obtain ⟨tk, htk⟩ : ∃ tk, tk = ts[i] := ⟨_, rfl⟩
      have hdr : ts.drop i = tk :: ts.drop (i + 1) := by rw [htk]; exact List.drop_eq_getElem_cons hlt2
      have hget : (ts ++ [(⟨6, [], s.size⟩ : Tok)])[i]? = some tk := by rw [List.getElem?_append_left hlt2, htk]; exact List.getElem?_eq_getElem hlt2
      have hok := HE.out
      rw [hdr] at hok
      obtain ⟨o1, o2, o3, o4, o5, o6⟩ := hok
      obtain ⟨q0, q1, q2⟩ := HLi.out.get hget
      obtain ⟨k, x, p⟩ := tk
      obtain ⟨T, hT⟩ : ∃ T, L T = txt ⟨k, x, p⟩ := ⟨S _, L_S _⟩
      obtain ⟨z, hz⟩ : ∃ z, (txt ⟨k, x, p⟩).length = z := ⟨_, rfl⟩
      rw [hz, len_L] at o3
      rw [hz] at o2 o4 o6
      have hTz : T.size = z := by rw [← len_L, hT, hz]
      have hex : s.extract p (p + z) = T := by
        apply L_inj
        rw [L_extract, hT, ← o4, show p + z - p = z by omega]
      have hne : T.toList.isEmpty = false := by rw [toL, List.isEmpty_eq_false_iff, Ne, empty_L]; omega
      have O6 : Hid (okT (L s) (p + z) (ts.drop (i + 1))) := o6
      have hcells := HLi.out.lt
      clear hdr hget htk o4 o6 hz
      have hend : ∀ o, Lie (wr.alloc o) w.heap.size g cap (ts ++ [⟨6, [], s.size⟩]) ∧ Below w.heap.size w (wr.alloc o) := fun o => ⟨HLi.out.keep (belA (Below.refl _ _) _), HB.out.alloc HB.out.size o⟩
      have HEND : Hid _ := hend
      clear hend
      replace o1 : e ≤ p := o1
      replace o3 : p + z ≤ s.size := o3
      have o3a : (p : Int) + (z : Int) ≤ (s.size : Int) := by omega
      have o3b : (p : Int) ≤ (s.size : Int) := by omega
      have o3c : (z : Int) ≤ (s.size : Int) - (p : Int) := by omega
      replace q0 : wr.cell? ⟨g, i * 3, none⟩ = some (.int .i64 k) := q0
      replace q1 : wr.cell? ⟨g, i * 3 + 1, none⟩ = some (.string (S x)) := q1
      replace q2 : wr.cell? ⟨g, i * 3 + 2, none⟩ = some (.int .i64 p) := q2
      have o5' : ((k == 4) = false ∧ (k == 5) = false ∧ S x = T) ∨ k = 4 ∨ k = 5 := by
        rcases o5 with rfl | rfl | rfl | rfl | rfl
        · exact Or.inl ⟨rfl, rfl, by apply L_inj; rw [L_S, hT]; rfl⟩
        · exact Or.inl ⟨rfl, rfl, by apply L_inj; rw [L_S, hT]; rfl⟩
        · exact Or.inl ⟨rfl, rfl, by apply L_inj; rw [L_S, hT]; rfl⟩
        · exact Or.inr (Or.inl rfl)
        · exact Or.inr (Or.inr rfl)
      clear o5
      rcases o5' with ⟨k4, k5, hTS⟩ | rfl | rfl
      · rw [hTS] at q1
        clear hTS hT
        go_wp2
        go_roundw
        case rel => exact ⟨p + z, i + 1, by omega, by go_num, by go_num, by omega, O6, (HEND.out _).1, (HEND.out _).2⟩
        case measure => simp [intOf]; omega
      · have hTS : (⟨#[96]⟩ : ByteArray) ++ S x = T := by apply L_inj; rw [L_append, L_S, hT]; rfl
        have hxs : (S x).size ≤ 9223372036854775806 := by
          have := congrArg ByteArray.size hTS
          rw [ByteArray.size_append, hTz] at this
          have h1 : (⟨#[96]⟩ : ByteArray).size = 1 := rfl
          omega
        obtain ⟨sx, hsx⟩ : ∃ sx, sx = S x := ⟨_, rfl⟩
        rw [← hsx] at hTS hxs
        replace q1 : wr.cell? ⟨g, i * 3 + 1, none⟩ = some (.string sx) := by rw [hsx]; exact q1
        clear hT hsx
        go_wp2
        go_roundw
        case rel => exact ⟨p + z, i + 1, by omega, by go_num, by go_num, by omega, O6, (HEND.out _).1, (HEND.out _).2⟩
        case measure => simp [intOf]; omega
      · have hTS : T = ⟨#[10]⟩ := by apply L_inj; rw [hT]; rfl
        subst hTS
        have hz1 : z = 1 := hTz.symm
        subst hz1
        obtain ⟨sx, hsx⟩ : ∃ sx, sx = S x := ⟨_, rfl⟩
        replace q1 : wr.cell? ⟨g, i * 3 + 1, none⟩ = some (.string sx) := by rw [hsx]; exact q1
        clear hT hsx hTz
        go_wp2
        go_roundw
        case rel => exact ⟨p + 1, i + 1, by omega, by go_num, by go_num, by omega, O6, (HEND.out _).1, (HEND.out _).2⟩
        case measure => simp [intOf]; omega
    · have hm1 := (HB.out.cell (p := ⟨0, 0, none⟩) h0).trans hm
      go_wp2_with (first | (go_at_call 13; refine (awake_c m _ hm1 (Nat.lt_of_lt_of_le h0 HB.out.size)).mono ?_; rintro e w2 ⟨rfl, hb2⟩))
      go_ret
      exact ⟨rfl, bel HB.out hb2⟩

theorem LexerPlaces_c (s : ByteArray) (m : Int) (w : World) (hs : s.size ≤ maxLen) (hm : w.cell? ⟨0, 0, none⟩ = some (.int .i64 m)) (h0 : 0 < w.heap.size) :
    Calls Try.prog 5 #[.string s] w fun e w' => e = .returned (.bool true) ∧ Below w.heap.size w w' := by
  cases hl : lexL (L s) with
  | toks t => exact places_t s m w hs hm h0 t hl
  | bad p c => exact places_b s m w hs hm h0 p c hl
end Go.Proofs.Ytjliooccnjcojaa
