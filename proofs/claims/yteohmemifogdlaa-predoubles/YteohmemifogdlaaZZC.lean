/- Layer 3's statements: a source's tokens, whether there is a tick among them. -/
import Derived.Test.YteohmemifogdlaaYP
import Derived.Test.YteohmemifogdlaaGM
import Derived.Test.YteohmemifogdlaaGX
namespace Go.Proofs.Yteohmemifogdlaa
open Go.RowKit Lg
set_option linter.unusedVariables false
set_option linter.unusedSimpArgs false

theorem lexed_t (s : ByteArray) (w : World) (hs : s.size ≤ maxLen) (l : List Tok) (hl : lexL (L s) = .toks l) :
    Calls Try.prog 6 #[.string s] w fun e w' => ∃ g cap, e = .returned (.slice (some ⟨g, 0, none⟩) l.length cap) ∧ Lie w' w.heap.size g cap l ∧ Below w.heap.size w w' := by
  have HR := fun w => rLex_t s w hs l hl
  have HL : Hid (lexL (L s) = .toks l) := hl
  clear hl
  go_enter Try.func6, Try.ntmps6
  go_wp2_with (first | (go_at_call 11; refine (HR _).mono ?_; rintro e w1 ⟨g, cap, rfl, hli, hb1⟩))
  go_ret
  exact ⟨g, cap, rfl, hli, hb1⟩
theorem lexed_b (s : ByteArray) (w : World) (hs : s.size ≤ maxLen) (p : Nat) (c : Int) (hl : lexL (L s) = .bad p c) :
    Calls Try.prog 6 #[.string s] w fun e w' => e = .returned (.slice none 0 0) ∧ Below w.heap.size w w' := by
  have HR := fun w => rLex_b s w hs p c hl
  clear hl
  go_enter Try.func6, Try.ntmps6
  go_wp2_with (first | (go_at_call 11; refine (HR _).mono ?_; rintro e w1 ⟨g, rfl, _, hb1⟩))
  go_ret
  exact ⟨rfl, hb1⟩
theorem tkd_take {l : List Tok} {i : Nat} {t : Tok} (h : l[i]? = some t) (h0 : tkd (l.take i) = false) : tkd (l.take (i + 1)) = tkB t := by
  unfold tkd at h0 ⊢
  rw [List.take_add_one, h, List.any_append, h0]
  simp
theorem tkd_at {l : List Tok} {i : Nat} {t : Tok} (h : l[i]? = some t) (h0 : tkB t = true) : tkd l = true := List.any_eq_true.2 ⟨t, List.mem_of_getElem? h, h0⟩
set_option maxRecDepth 100000 in
set_option maxHeartbeats 2000000 in
theorem ticked_c (l : List Tok) (B g cap : Nat) (w : World) (hL : Lie w B g cap l) (hl : l.length ≤ 1000000) :
    Calls Try.prog 9 #[.slice (some ⟨g, 0, none⟩) l.length cap] w fun e w' => e = .returned (.bool (tkd l)) ∧ Below w.heap.size w w' := by
  have hcap := hL.cap.1
  have HL : Hid _ := hL
  obtain ⟨n, hn⟩ : ∃ n, n = l.length := ⟨_, rfl⟩
  rw [← hn] at hcap hl ⊢
  have HN : Hid _ := hn
  have hg := hL.lt
  clear hn hL
  go_enter Try.func9, Try.ntmps9
  go_wp2_with fail
  go_loopw [3] (fun iv wr => ∃ i : Nat, i ≤ n ∧ iv = .int .i64 i ∧ tkd (l.take i) = false ∧ Hid (Below w.heap.size w wr)) (fun iv _ => n - (intOf iv).toNat)
  case atStart => exact ⟨0, Nat.zero_le _, rfl, rfl, Below.refl _ _⟩
  case round =>
    obtain ⟨i, hi, rfl, ht, HB⟩ := hrel
    have HT : Hid _ := ht
    clear ht
    by_cases hlt : i < n
    · have hltI : (i : Int) < (n : Int) := by omega
      obtain ⟨⟨k, x, p⟩, hx⟩ : ∃ t, l[i]? = some t := ⟨_, List.getElem?_eq_getElem (by rw [← HN.out]; exact hlt)⟩
      obtain ⟨q0, _, _⟩ := (HL.out.keep HB.out).get hx
      replace q0 : wr.cell? ⟨g, i * 3, none⟩ = some (.int .i64 k) := q0
      have HX : Hid _ := hx
      have hgr := Nat.lt_of_lt_of_le hg HB.out.size
      clear hx
      by_cases h4 : k = 4
      · subst h4
        go_wp2_with fail
        go_ret
        exact ⟨by rw [tkd_at HX.out rfl]; rfl, HB.out⟩
      · have e4 : (k == 4) = false := by simpa using h4
        by_cases h5 : k = 5
        · subst h5
          go_wp2_with fail
          go_ret
          exact ⟨by rw [tkd_at HX.out rfl]; rfl, HB.out⟩
        · have e5 : (k == 5) = false := by simpa using h5
          go_wp2_with fail
          go_roundw
          case rel => exact ⟨i + 1, by omega, by go_num, by rw [tkd_take HX.out HT.out]; simp [tkB, e4, e5], HB⟩
          case measure => simp [intOf]; omega
    · have hge : (n : Int) ≤ (i : Int) := by omega
      obtain rfl : i = n := by omega
      go_wp2_with fail
      go_ret
      refine ⟨?_, HB.out⟩
      have := HT.out
      rw [HN.out, List.take_length] at this
      rw [this]; rfl
end Go.Proofs.Yteohmemifogdlaa
