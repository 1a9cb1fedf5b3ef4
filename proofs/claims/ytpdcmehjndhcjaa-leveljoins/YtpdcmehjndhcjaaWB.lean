/- Layer 1: same, part, fit, vectors, the tables. -/
import Derived.Test.YtpdcmehjndhcjaaWA
import Derived.Test.YtpdcmehjndhcjaaGX
import Derived.Deep.RegionWith
import Derived.Deep.OwnRows
import Derived.Laws.BytesArg
namespace Go.Proofs.Ytpdcmehjndhcjaa
open Go.RowKit Lg
set_option linter.unusedVariables false

theorem repeat_rep (c : UInt8) (n : Nat) : (⟨(Lib.repeatL [c] n).toArray⟩ : ByteArray) = S (rep n c) := by
  unfold S rep
  congr 2
  induction n with
  | zero => rfl
  | succ n ih => simp only [Lib.repeatL, List.replicate_succ]; rw [ih]; rfl

theorem ext_fit {s : ByteArray} {n : Nat} (h1 : 1 ≤ n) (h2 : n ≤ s.size) : s.extract (s.size - 1 - (n - 1)) (s.size - 0) = S (fit (L s) n) := by
  apply L_inj
  rw [L_extract, L_S]
  unfold fit
  rw [if_pos (by rw [len_L]; exact h2), len_L, List.take_of_length_le (by simp [len_L] <;> omega)]
  congr 1; omega
theorem app_fit {s : ByteArray} {n : Nat} (h : s.size < n) : S (rep (n - s.size) 48) ++ s = S (fit (L s) n) := by
  apply L_inj
  rw [L_append, L_S, L_S]
  unfold fit rep
  rw [if_neg (by rw [len_L]; omega), len_L]

set_option maxHeartbeats 400000 in
theorem vectors_c (ss : List ByteArray) (b cap : Nat) (w : World) (hl : ss.length ≤ 3) (hc : ∀ i, i < ss.length → w.cell? ⟨b, i, none⟩ = some (.string (ss.getD i ByteArray.empty))) (hs : ∀ i, i < ss.length → (ss.getD i ByteArray.empty).size ≤ maxLen) :
    Calls Try.prog 39 #[.slice (some ⟨b, 0, none⟩) ss.length cap] w fun e w' => e = .returned (.bool (ss.all fun s => vec (L s))) ∧ w' = w := by
  have HC : Hid (∀ i, i < ss.length → w.cell? ⟨b, i, none⟩ = some (.string (ss.getD i ByteArray.empty))) := hc
  clear hc
  obtain ⟨n, hn⟩ : ∃ n, n = ss.length := ⟨_, rfl⟩
  rw [← hn]
  have HN : Hid (n = ss.length) := hn
  have hn3 : n ≤ 3 := by omega
  clear hn hl
  go_enter Try.func39, Try.ntmps39
  go_wp2
  go_loop [7] (fun i => ∃ k : Nat, k ≤ n ∧ i = .int .i64 k ∧ Hid ((ss.take k).all (fun s => vec (L s)) = true)) (fun i => n - (intOf i).toNat)
  case atStart => exact ⟨0, Nat.zero_le _, rfl, by simp [Hid]⟩
  case round =>
    obtain ⟨k, hk, rfl, hh⟩ := hrel
    by_cases hlt : k < n
    · have hkl : k < ss.length := by rw [← HN.out]; exact hlt
      obtain ⟨s, hsd⟩ : ∃ s, s = ss.getD k ByteArray.empty := ⟨_, rfl⟩
      have hcell : w.cell? ⟨b, k, none⟩ = some (.string s) := by rw [hsd]; exact HC.out k hkl
      have hsz : s.size ≤ maxLen := by rw [hsd]; exact hs k hkl
      have hsn : (ss.take (k + 1)).all (fun s => vec (L s)) = ((ss.take k).all (fun s => vec (L s)) && vec (L s)) := by
        rw [List.take_succ_eq_append_getElem hkl, List.all_append]; simp [hsd, List.getElem?_eq_getElem hkl]
      have hfl : vec (L s) = false → ss.all (fun s => vec (L s)) = false := by
        intro h; rw [List.all_eq_false]; exact ⟨s, by rw [hsd, List.getD_eq_getElem?_getD, List.getElem?_eq_getElem hkl]; exact List.getElem_mem _, by simp [h]⟩
      have HS : Hid (s = ss.getD k ByteArray.empty) := hsd
      have HSN : Hid _ := hsn
      have HF : Hid _ := hfl
      clear hsd hsn hfl hs
      by_cases hv : vec (L s) = true
      · go_wp2_with (go_at_call 41; refine (vector_c _ _ hsz).mono ?_; rintro e w' ⟨rfl, rfl⟩)
        go_round
        case rel => exact ⟨k + 1, by omega, by go_num, by have := HSN.out; rw [hh.out, hv] at this; simpa [Hid] using this⟩
        case measure => simp [intOf]; omega
      · have hv' : vec (L s) = false := by simpa using hv
        go_wp2_with (go_at_call 41; refine (vector_c _ _ hsz).mono ?_; rintro e w' ⟨rfl, rfl⟩)
        go_ret
        exact ⟨ret_bool (HF.out hv').symm, rfl⟩
    · go_wp2
      go_ret
      exact ⟨ret_bool (by have := hh.out; rw [List.take_of_length_le (by have := HN.out; omega)] at this; exact this.symm), rfl⟩

/-- the four rows of a table -/
def row4 (a b c d : List UInt8) : Value := .agg #[.string (S a), .string (S b), .string (S c), .string (S d)]
def tAnd : Value := row4 [48, 48, 48, 48] [48, 49, 120, 120] [48, 120, 120, 120] [48, 120, 120, 120]
def tOr : Value := row4 [48, 49, 120, 120] [49, 49, 49, 49] [120, 49, 120, 120] [120, 49, 120, 120]
def tXor : Value := row4 [48, 49, 120, 120] [49, 48, 120, 120] [120, 120, 120, 120] [120, 120, 120, 120]
def tAgr : Value := row4 [48, 120, 120, 120] [120, 49, 120, 120] [120, 120, 120, 120] [120, 120, 120, 120]

end Go.Proofs.Ytpdcmehjndhcjaa
