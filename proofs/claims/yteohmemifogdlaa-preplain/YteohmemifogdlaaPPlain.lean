/- Layer 3: without ticks tokens stay as they are; what comes has none; done again it stays. -/
import Derived.Test.YteohmemifogdlaaZZD
namespace Go.Proofs.Yteohmemifogdlaa
open Go.RowKit Lg
set_option linter.unusedVariables false
set_option linter.unusedSimpArgs false

theorem plain_b (s : ByteArray) (w : World) (hs : s.size ≤ maxLen) (p : Nat) (c : Int) (hl : lexL (L s) = .bad p c) :
    Calls Try.prog 3 #[.string s] w fun e w' => e = .returned (.bool true) ∧ Below w.heap.size w w' := by
  have HL := fun w => lexed_b s w hs p c hl
  clear hl
  go_enter Try.func3, Try.ntmps3
  go_wp2_with (first
    | (go_at_call 6; refine (HL _).mono ?_; rintro e w1 ⟨rfl, hb1⟩)
    | (go_at_call 7; refine (awake3_c _).mono ?_; rintro e w2 ⟨rfl, hb2⟩))
  go_ret
  exact ⟨rfl, bel hb1 hb2⟩
set_option maxRecDepth 100000 in
set_option maxHeartbeats 4000000 in
theorem plain_no (s : ByteArray) (w : World) (hs : s.size ≤ maxLen) (ts : List Tok) (e0 : Tok) (hl : lexL (L s) = .toks (ts ++ [e0])) (h1 : ts.length ≤ 16384) (h2 : ∀ u ∈ ts, u.x.length ≤ 65536) (p : Nat) (c : Int) (hr : runP e0 ts ps0 = .no p c) (ht : tkd (ts ++ [e0]) = true) (hp : p < s.size) :
    Calls Try.prog 3 #[.string s] w fun e w' => e = .returned (.bool true) ∧ Below w.heap.size w w' := by
  have HL := fun w => lexed_t s w hs _ hl
  have HR := fun B g cap w hL => Run_b ts e0 B g cap w hL h1 h2 p c hr
  have HT := fun B g cap w hL => ticked_c (ts ++ [e0]) B g cap w hL (by rw [List.length_append]; simp; omega)
  rw [ht] at HT
  obtain ⟨n, hn⟩ : ∃ n, ts.length = n := ⟨_, rfl⟩
  have hln : (ts ++ [e0]).length = n + 1 := by rw [List.length_append, hn]; rfl
  rw [hln] at HL HR HT
  rw [hn] at h1
  clear hl hr ht hn hln h2
  have k1 : ((n : Int) + 1 == 0) = false := by rw [beq_eq_false_iff_ne]; omega
  have hpI : (p : Int) < (s.size : Int) := by omega
  have hp0 : (0 : Int) ≤ (p : Int) := by omega
  have run : Below w.heap.size w w := Below.refl _ _
  go_enter Try.func3, Try.ntmps3
  go_wp2_with (first
    | (go_at_call 6; refine (HL _).mono ?_; rintro e w1 ⟨g1, c1, rfl, hl1, hb1⟩; replace run := bel run hb1)
    | (go_at_call 8; refine (HR _ _ _ _ hl1).mono ?_; rintro e w2 ⟨g2, rfl, ⟨_, hg2, q0, q1⟩, hb2⟩; replace run := bel run hb2)
    | (go_at_call 9; refine (HT _ _ _ _ (hl1.keep hb2)).mono ?_; rintro e w3 ⟨rfl, hb3⟩; replace run := bel run hb3; replace q0 := (hb3.cell (p := ⟨g2, 0, none⟩) hg2).trans q0)
    | (go_at_call 7; refine (awake3_c _).mono ?_; rintro e w4 ⟨rfl, hb4⟩; replace run := bel run hb4))
  go_ret
  exact ⟨rfl, run⟩
set_option maxRecDepth 100000 in
set_option maxHeartbeats 4000000 in
theorem plain_ok (s : ByteArray) (w : World) (hs : s.size ≤ maxLen) (ts : List Tok) (e0 : Tok) (hl : lexL (L s) = .toks (ts ++ [e0])) (h1 : ts.length ≤ 16384) (h2 : ∀ u ∈ ts, u.x.length ≤ 65536) (k : List Tok) (hr : runP e0 ts ps0 = .ok (k ++ [e0])) (ht : tkd (k ++ [e0]) = false) (hk1 : k.length ≤ 16384) (hk2 : ∀ u ∈ k, u.x.length ≤ 65536) (hr2 : runP e0 k ps0 = .ok (k ++ [e0])) (hT : tkd (ts ++ [e0]) = true ∨ k = ts) :
    Calls Try.prog 3 #[.string s] w fun e w' => e = .returned (.bool true) ∧ Below w.heap.size w w' := by
  have HL := fun w => lexed_t s w hs _ hl
  have HR := fun B g cap w hL => Run_t ts e0 B g cap w hL h1 h2 _ hr (by simp)
  have HR2 := fun B g cap w hL => Run_t k e0 B g cap w hL hk1 hk2 _ hr2 (by simp)
  have HT1 := fun B g cap w hL => ticked_c (ts ++ [e0]) B g cap w hL (by rw [List.length_append]; simp; omega)
  have HT2 := fun B g cap w hL => ticked_c (k ++ [e0]) B g cap w hL (by rw [List.length_append]; simp; omega)
  have HS := fun B1 B2 g1 c1 g2 c2 w h1 h2 => same_t (k ++ [e0]) B1 B2 g1 c1 g2 c2 w h1 h2 (by rw [List.length_append]; simp; omega)
  rw [ht] at HT2
  obtain ⟨n, hn⟩ : ∃ n, ts.length = n := ⟨_, rfl⟩
  obtain ⟨m, hm⟩ : ∃ m, k.length = m := ⟨_, rfl⟩
  have hln : (ts ++ [e0]).length = n + 1 := by rw [List.length_append, hn]; rfl
  have hlm : (k ++ [e0]).length = m + 1 := by rw [List.length_append, hm]; rfl
  rw [hn] at h1
  rw [hm] at hk1
  have k1 : ((n : Int) + 1 == 0) = false := by rw [beq_eq_false_iff_ne]; omega
  have k2 : ((m : Int) + 1 == 0) = false := by rw [beq_eq_false_iff_ne]; omega
  have run : Below w.heap.size w w := Below.refl _ _
  rcases hT with hT | hT
  · rw [hT] at HT1
    rw [hln] at HL HR HT1
    rw [hlm] at HR2 HT2 HS HR
    clear hl hr ht hn hln hlm h2 hr2 hk2 hm hT
    go_enter Try.func3, Try.ntmps3
    go_wp2_with (first
      | (go_at_call 6; refine (HL _).mono ?_; rintro e w1 ⟨g1, c1, rfl, hl1, hb1⟩; replace run := bel run hb1)
      | (go_at_call 8; refine (HR2 _ _ _ _ hl2).mono ?_; rintro e w5 ⟨g5, c5, rfl, hl5, hb5⟩; replace run := bel run hb5; replace hl2 := hl2.keep hb5)
      | (go_at_call 8; refine (HR _ _ _ _ hl1).mono ?_; rintro e w2 ⟨g2, c2, rfl, hl2, hb2⟩; replace run := bel run hb2)
      | (go_at_call 9; have hx := hb3; refine (HT2 _ _ _ _ hl2).mono ?_; rintro e w4 ⟨rfl, hb4⟩; replace run := bel run hb4; replace hl2 := hl2.keep hb4)
      | (go_at_call 9; refine (HT1 _ _ _ _ (hl1.keep hb2)).mono ?_; rintro e w3 ⟨rfl, hb3⟩; replace run := bel run hb3; replace hl2 := hl2.keep hb3)
      | (go_at_call 10; refine (HS _ _ _ _ _ _ _ hl2 hl5).mono ?_; rintro e w6 ⟨rfl, hb6⟩; replace run := bel run hb6)
      | (go_at_call 7; refine (awake3_c _).mono ?_; rintro e w7 ⟨rfl, hb7⟩; replace run := bel run hb7))
    go_ret
    exact ⟨rfl, run⟩
  · subst hT
    obtain rfl : m = n := by omega
    rw [ht] at HT1
    rw [hln] at HL HR HT1 HR2 HT2 HS
    clear hl hr ht hn hln hlm h2 hr2 hk2 hm HT2 HR2
    go_enter Try.func3, Try.ntmps3
    go_wp2_with (first
      | (go_at_call 6; refine (HL _).mono ?_; rintro e w1 ⟨g1, c1, rfl, hl1, hb1⟩; replace run := bel run hb1)
      | (go_at_call 8; refine (HR _ _ _ _ hl2).mono ?_; rintro e w5 ⟨g5, c5, rfl, hl5, hb5⟩; replace run := bel run hb5; replace hl2 := hl2.keep hb5)
      | (go_at_call 8; refine (HR _ _ _ _ hl1).mono ?_; rintro e w2 ⟨g2, c2, rfl, hl2, hb2⟩; replace run := bel run hb2; replace hl1 := hl1.keep hb2)
      | (go_at_call 9; have hx := hb3; refine (HT1 _ _ _ _ hl2).mono ?_; rintro e w4 ⟨rfl, hb4⟩; replace run := bel run hb4; replace hl2 := hl2.keep hb4)
      | (go_at_call 9; refine (HT1 _ _ _ _ hl1).mono ?_; rintro e w3 ⟨rfl, hb3⟩; replace run := bel run hb3; replace hl2 := hl2.keep hb3; replace hl1 := hl1.keep hb3)
      | (go_at_call 10; refine (HS _ _ _ _ _ _ _ hl2 hl5).mono ?_; rintro e w8 ⟨rfl, hb8⟩; replace run := bel run hb8)
      | (go_at_call 10; refine (HS _ _ _ _ _ _ _ hl2 hl1).mono ?_; rintro e w6 ⟨rfl, hb6⟩; replace run := bel run hb6; replace hl2 := hl2.keep hb6)
      | (go_at_call 7; refine (awake3_c _).mono ?_; rintro e w7 ⟨rfl, hb7⟩; replace run := bel run hb7))
    go_ret
    exact ⟨rfl, run⟩
theorem PrePlain_c (s : ByteArray) (w : World) (hs : s.size ≤ maxLen) : Calls Try.prog 3 #[.string s] w fun e w' => e = .returned (.bool true) ∧ Below w.heap.size w w' := by
  cases hl : lexL (L s) with
  | bad p c => exact plain_b s w hs p c hl
  | toks l =>
    obtain ⟨ts, rfl, h1, h2, h3, h4, h5⟩ := lex_facts hl
    rcases pre_facts (l := L s) ⟨6, [], (L s).length⟩ rfl h1 h2 h3 with ⟨p, c, hr, ht, hp⟩ | ⟨k, hr, ht, hk1, hk2, hr2, hT⟩
    · exact plain_no s w hs ts _ hl h1 h2 p c hr ht (by rw [len_L] at hp; exact hp)
    · refine plain_ok s w hs ts _ hl h1 h2 k hr ht hk1 hk2 hr2 ?_
      cases hq : tkd (ts ++ [⟨6, [], (L s).length⟩]) with
      | true => exact Or.inl rfl
      | false => exact Or.inr (hT hq)
end Go.Proofs.Yteohmemifogdlaa
