/- Chains of delays, plain. -/
import Derived.Test.YtkgonnnpoldcoaaRO
namespace Go.Proofs.Ytkgonnnpoldcoaa
open Go.RowKit Lg Nl
set_option linter.unusedVariables false
set_option linter.unusedSimpArgs false

def chI : Nd := ⟨2, 0, 1, [], [], 0, 0, 0⟩
def chD (t : Int) (i : Int) : Nd := ⟨8, 0, 1, [i], [], 0, 0, t⟩
def chN (t : Int) (i : Nat) : Nd := if i = 0 then chI else chD t ((i - 1 : Nat) : Int)
/-- an input, and n delays in a row behind it -/
def chL (n : Nat) (t : Int) : List Nd := (List.range (n + 1)).map (chN t)
theorem chL_len (n : Nat) (t : Int) : (chL n t).length = n + 1 := by simp [chL]
theorem chL_zero (t : Int) : chL 0 t = [chI] := rfl
theorem chL_succ (n : Nat) (t : Int) : chL (n + 1) t = chL n t ++ [chD t (n : Int)] := by
  unfold chL
  rw [List.range_succ, List.map_append]
  show _ ++ [chN t (n + 1)] = _
  unfold chN
  rw [if_neg (by omega)]; rfl
theorem chL_at {n i : Nat} {t : Int} (h : i < n + 1) : ndAt (chL n t) i = chN t i := by
  rw [ndAt_eq (by rw [chL_len]; exact h)]; simp [chL]
theorem ch_may {n : Nat} {t : Int} (hn : n < 60) (h1 : 1 ≤ t) (h2 : t ≤ 256) : mayN (chL n t) [0] 1 = true := by
  refine may_yes ⟨by rw [chL_len]; omega, rfl⟩ ?_ (by simp [inB, chL_len]) (fun i hi => ?_)
  · rw [List.all_eq_true]
    intro x hx
    obtain ⟨i, hi, rfl⟩ := List.mem_map.1 hx
    have hi := List.mem_range.1 hi
    unfold chN
    by_cases e : i = 0
    · rw [if_pos e]; rfl
    · rw [if_neg e]; simp [shapeB, wideB, zeroB, chD, inB, chL_len]; omega
  · rw [chL_len] at hi
    have he : (chL n t)[i] = chN t i := by simp [chL]
    rw [he]
    unfold chN
    by_cases e : i = 0
    · subst e; rw [if_pos rfl]; exact ⟨rfl, fun _ => rfl⟩
    · rw [if_neg e]
      refine ⟨?_, fun h => by simp [chD] at h⟩
      have hw : wdAt (chL n t) ((i - 1 : Nat) : Int) = 1 := by
        unfold wdAt
        rw [Int.toNat_natCast, chL_at (by omega)]
        unfold chN
        split <;> rfl
      simp [nodeB, chD, wsOf, wn, hw]; omega
theorem ch_lev (n : Nat) (t : Int) : Lev (chL n t) (fun _ => 0) := by
  refine ⟨fun i hi => Int.le_refl _, fun i hi h hh => ?_, fun i hi => Or.inl rfl⟩
  rw [chL_len] at hi
  rw [chL_at hi] at hh
  unfold chN at hh
  split at hh <;> simp [hgs, hangL, chI, chD] at hh
theorem ch_fits {n : Nat} {t : Int} (hn : n < 60) : Fits (chL n t) [0] := by
  refine ⟨by rw [chL_len]; omega, by simp, fun x hx => ?_, fun x hx => ?_⟩
  · obtain ⟨i, _, rfl⟩ := List.mem_map.1 hx
    unfold chN; split <;> simp [chI, chD]
  · obtain ⟨i, _, rfl⟩ := List.mem_map.1 hx
    unfold chN; split <;> simp [chI, chD]
theorem pigeon : ∀ (m : Nat) (l : List Int), (∀ k : Nat, k < m → (k : Int) ∈ l) → m ≤ l.length
  | 0, _, _ => Nat.zero_le _
  | m + 1, l, h => by
    have h1 := h m (Nat.lt_succ_self _)
    have h2 := pigeon m (l.erase (m : Int)) (fun k hk => (List.mem_erase_of_ne (by omega)).2 (h k (by omega)))
    rw [List.length_erase_of_mem h1] at h2
    have h3 := List.length_pos_of_mem h1
    omega
theorem PtsOk.le {l : List Nd} {of : List Int} {c : Nat} {ah : List (List Int)} (h : PtsOk l of (c : Int) ah) : c ≤ l.length := by
  rw [← h.n]
  exact pigeon c of (fun k hk => h.u k (by omega) (by omega))
/-- each node by itself: the last one is part 0 -/
def chO (n i : Nat) : List Int := (List.range i).map fun (q : Nat) => (n : Int) - (q : Int)
def chR (n : Nat) (t : Int) (i : Nat) : List Int := (List.range (n + 1)).map fun (k : Nat) => if k + 1 = i then t else 0
def chA (n : Nat) (t : Int) (i : Nat) : List (List Int) := (List.range i).map (chR n t)
theorem chO_at {n i : Nat} (h : i < n + 1) : ofAt (chO n (n + 1)) (i : Nat) = (n : Int) - (i : Int) := by
  rw [ofAt_nat (by simp [chO]; omega)]; simp [chO]
theorem ch_to {n : Nat} {t : Int} (ht : 1 ≤ t) (i k : Nat) (hi : i < n + 1) (hk : k < n + 1) : ∀ j, j ≤ n + 1 → aTo (chL n t) (chO n (n + 1)) (i : Int) (k : Int) j = if k + 1 = i ∧ n < j + k then t else 0
  | 0, _ => by rw [if_neg (by omega)]; rfl
  | j + 1, hj => by
    have ih := ch_to ht i k hi hk j (by omega)
    show aStep (ndAt (chL n t) j) (ofAt (chO n (n + 1)) (in0 (ndAt (chL n t) j))) (ofAt (chO n (n + 1)) (j : Nat)) i k (aTo (chL n t) (chO n (n + 1)) i k j) = _
    rw [ih, chL_at (by omega), chO_at (by omega)]
    by_cases e : j = 0
    · subst e
      unfold aStep
      rw [if_neg (by intro h; exact absurd h.1 (by simp [chN, chI])), if_neg (by omega), if_neg (by omega)]
    · have e2 : chN t j = chD t ((j - 1 : Nat) : Int) := by unfold chN; rw [if_neg e]
      have e3 : in0 (chD t ((j - 1 : Nat) : Int)) = ((j - 1 : Nat) : Int) := rfl
      rw [e2, e3, chO_at (by omega)]
      obtain ⟨b, hb⟩ : ∃ b : Int, b = if k + 1 = i ∧ n < j + k then t else 0 := ⟨_, rfl⟩
      rw [← hb]
      by_cases c : k + 1 = i ∧ n = j + k
      · have h0 : b = 0 := by rw [hb, if_neg (by omega)]
        unfold aStep
        rw [if_pos ⟨rfl, by omega, by omega, by omega, Or.inl h0⟩, if_pos (by omega)]; rfl
      · unfold aStep
        rw [if_neg (by intro h; obtain ⟨_, _, h1, h2, _⟩ := h; omega), hb]
        by_cases d : k + 1 = i ∧ n < j + k
        · rw [if_pos d, if_pos (by omega)]
        · rw [if_neg d, if_neg (by omega)]
theorem ch_each {n : Nat} {t : Int} (hn : n < 60) (ht : 1 ≤ t) : PtsOk (chL n t) (chO n (n + 1)) ((n : Int) + 1) (chA n t (n + 1)) := by
  refine ⟨by omega, by omega, by simp [chO, chL_len], fun z hz => ?_, fun k k0 kn => ?_, fun i hi h8 z hz => ?_, ?_⟩
  · obtain ⟨q, hq, rfl⟩ := List.mem_map.1 hz
    have := List.mem_range.1 hq
    omega
  · exact List.mem_map.2 ⟨n - k.toNat, List.mem_range.2 (by omega), by omega⟩
  · rw [chL_len] at hi
    rw [chL_at hi] at h8 hz
    unfold chN at h8 hz
    split at hz
    · simp [chI] at hz
    · rename_i e; rw [if_neg e] at h8; exact absurd rfl h8
  · have e : ((n : Int) + 1).toNat = n + 1 := by omega
    rw [e]
    unfold chA aheadL
    refine List.map_congr_left fun i hi => List.map_congr_left fun k hk => ?_
    have hi := List.mem_range.1 hi
    have hk := List.mem_range.1 hk
    unfold aheadN
    rw [chL_len, ch_to ht i k hi hk (n + 1) (Nat.le_refl _)]
    by_cases c : k + 1 = i
    · rw [if_pos c, if_pos (by omega)]
    · rw [if_neg c, if_neg (by omega)]
end Go.Proofs.Ytkgonnnpoldcoaa
