/- Layer 20: changes that come at even times (plain). -/
import Derived.Test.YtiecneefommdlaaGF
namespace Go.Proofs.Ytiecneefommdlaa
set_option maxRecDepth 100000
open Go.RowKit Lg Nl Go.Maps Wf Fl
set_option linter.unusedVariables false
set_option linter.unusedSimpArgs false

/-- the i-th change -/
def evV (i : Nat) : ByteArray := if i % 2 = 1 then ⟨#[49]⟩ else ⟨#[48]⟩
def evC (d i : Nat) : Ch := ⟨((d * i : Nat) : Int), 0, evV i⟩
def evL (d n : Nat) : List Ch := (List.range n).map (evC d)
theorem evL_succ (d n : Nat) : evL d (n + 1) = evL d n ++ [evC d n] := by unfold evL; rw [List.range_succ, List.map_append]; rfl
theorem evL_len (d n : Nat) : (evL d n).length = n := by unfold evL; rw [List.length_map, List.length_range]
theorem evV_vec (i : Nat) : vec (L (evV i)) = true ∧ ((evV i).size : Int) = 1 ∧ evV i ≠ evV (i + 1) ∧ evV i ≠ ⟨#[120]⟩ := by
  unfold evV
  rcases Nat.mod_two_eq_zero_or_one i with h | h
  · rw [if_neg (by omega), if_pos (show (i + 1) % 2 = 1 by omega)]
    exact ⟨by decide +kernel, by decide, by decide, by decide⟩
  · rw [if_pos h, if_neg (show ¬ (i + 1) % 2 = 1 by omega)]
    exact ⟨by decide +kernel, by decide, by decide, by decide⟩
theorem ev_ls {d : Nat} (hd : 0 < d) : ∀ (k i : Nat) (p : Option Ch) (v : ByteArray), v ≠ evV i → (p = none ∨ ∃ j, i = j + 1 ∧ p = some (evC d j)) → d * (i + k) ≤ 4611686018427387903 → lsB [1] p [v] ((List.range' i k).map (evC d)) = true
  | 0, _, _, _, _, _, _ => rfl
  | k + 1, i, p, v, hv, hp, hb => by
    rw [List.range'_succ, List.map_cons]
    have hm : d * i ≤ d * (i + (k + 1)) := Nat.mul_le_mul_left d (by omega)
    have ih := ev_ls hd k (i + 1) (some (evC d i)) (evV i) (evV_vec i).2.2.1 (Or.inr ⟨i, rfl, rfl⟩) (by rw [show i + 1 + k = i + (k + 1) from by omega]; exact hb)
    obtain ⟨v1, v2, v3, v4⟩ := evV_vec i
    unfold lsB
    rw [show ((evC d i).n).toNat = 0 from rfl, show (evC d i).v = evV i from rfl, show sA [v] 0 = v from rfl, show iA [1] 0 = 1 from rfl, show [v].set 0 (evV i) = [evV i] from rfl, ih, v1]
    have a1 : decide (0 ≤ (evC d i).n ∧ (evC d i).n < (([v] : List ByteArray).length : Int) ∧ 0 ≤ (evC d i).t ∧ (evC d i).t ≤ 4611686018427387903) = true := by
      refine decide_eq_true ⟨Int.le_refl 0, by show (0 : Int) < 1; decide, ?_, ?_⟩
      · show (0 : Int) ≤ ((d * i : Nat) : Int); omega
      · show ((d * i : Nat) : Int) ≤ _; omega
    have a2 : decide (((evV i).size : Int) = 1) = true := decide_eq_true v2
    have a3 : decide (evV i ≠ v) = true := decide_eq_true (fun e => hv e.symm)
    rw [a1, a2, a3]
    rcases hp with rfl | ⟨j, rfl, rfl⟩
    · rfl
    · have a4 : ahB (evC d j) (evC d (j + 1)) = true := by
        refine decide_eq_true (Or.inl ?_)
        show ((d * j : Nat) : Int) < ((d * (j + 1) : Nat) : Int)
        rw [Nat.mul_succ]; omega
      show (true && ahB (evC d j) (evC d (j + 1)) && true && true && true && true) = true
      rw [a4]; rfl
def evW (d n : Nat) : Wv := ⟨[⟨#[97]⟩], [1], [⟨#[120]⟩], evL d n⟩
theorem ev_may {d n : Nat} (hd : 0 < d) (hb : d * n ≤ 4611686018427387903) : mayW (evW d n) = true := by
  unfold mayW
  have h1 : lenB (evW d n) = true := by show decide ((1 : Nat) ≤ 4096 ∧ (1 : Nat) = 1 ∧ (1 : Nat) = 1) = true; decide
  have h2 : (List.range (evW d n).nm.length).all (netB (evW d n)) = true := by
    show (List.range 1).all (netB (evW d n)) = true
    show (netB (evW d n) 0 && true) = true
    unfold netB
    rw [show sA (evW d n).nm 0 = ⟨#[97]⟩ from rfl, show sA (evW d n).fi 0 = ⟨#[120]⟩ from rfl, show iA (evW d n).wd 0 = 1 from rfl]
    decide +kernel
  have h3 : lsB (evW d n).wd none (evW d n).fi (evW d n).li = true := by
    show lsB [1] none [⟨#[120]⟩] (evL d n) = true
    unfold evL
    rw [List.range_eq_range']
    exact ev_ls hd n 0 none _ (fun e => (evV_vec 0).2.2.2 e.symm) (Or.inl rfl) (by rw [Nat.zero_add]; exact hb)
  rw [h1, h2, h3]; rfl
theorem ev_ok {d n : Nat} (hd : 0 < d) (hb : d * n ≤ 4611686018427387903) : okS (evW d n) 0 ((d * n : Nat) : Int) = true := by
  unfold okS
  rw [ev_may hd hb, Bool.true_and]
  refine decide_eq_true ⟨by decide, by show (0 : Int) < 1; decide, by omega, by omega⟩
def evT (d n : Nat) : List Int := (List.range n).map fun i => ((d * i : Nat) : Int)
theorem ev_tm (d n : Nat) : tmL 0 ((d * n : Nat) : Int) (evL d n) = evT d n := by
  unfold tmL
  rw [List.filter_eq_self.2]
  · unfold evL evT; rw [List.map_map]; rfl
  · intro c hc
    unfold evL at hc
    obtain ⟨i, hi, rfl⟩ := List.mem_map.1 hc
    have hi := List.mem_range.1 hi
    have h1 : d * i ≤ d * n := Nat.mul_le_mul_left d (by omega)
    show (decide (((d * i : Nat) : Int) ≤ ((d * n : Nat) : Int)) && (decide ((0 : Int) = -1) || decide ((0 : Int) = 0))) = true
    rw [decide_eq_true (by omega : ((d * i : Nat) : Int) ≤ ((d * n : Nat) : Int))]
    decide
theorem ev_gpr (d : Nat) : ∀ k i : Nat, gpL ((List.range' i (k + 1)).map fun j => ((d * j : Nat) : Int)) = List.replicate k (d : Int)
  | 0, i => rfl
  | k + 1, i => by
    have ih := ev_gpr d k (i + 1)
    rw [List.range'_succ, List.range'_succ] at *
    rw [List.map_cons, List.map_cons, List.replicate_succ, ← ih, List.map_cons]
    show (((d * (i + 1) : Nat) : Int) - ((d * i : Nat) : Int)) :: _ = _
    have e : ((d * (i + 1) : Nat) : Int) - ((d * i : Nat) : Int) = (d : Int) := by rw [Nat.mul_succ]; omega
    rw [e]
theorem ev_gp (d k : Nat) : gpL (evT d (k + 1)) = List.replicate k (d : Int) := by
  unfold evT
  rw [List.range_eq_range']
  exact ev_gpr d k 0
theorem ev_len (d n : Nat) : (evT d n).length = n := by unfold evT; rw [List.length_map, List.length_range]
namespace Fl
theorem rep_sum {d : Nat} : ∀ k : Nat, k * d < 9007199254740992 → d < 9007199254740992 → sumF 0 (List.replicate k (fI (d : Int))) = fI ((k * d : Nat) : Int)
  | 0, _, _ => by rw [Nat.zero_mul, show ((0 : Nat) : Int) = 0 from rfl, fI_0]; rfl
  | k + 1, h, h2 => by
    have e : (k + 1) * d = k * d + d := Nat.succ_mul k d
    rw [List.replicate_succ', sumF_snoc, rep_sum k (by omega) h2, add_fI (by omega) (by omega), e]
    rfl
theorem rep_sq {d : Nat} (h : d < 9007199254740992) : ∀ k : Nat, sqF (fI (d : Int)) 0 (List.replicate k (fI (d : Int))) = 0
  | 0 => rfl
  | k + 1 => by
    rw [List.replicate_succ', sqF_snoc, rep_sq h k]
    have e1 : sqrF (fI (d : Int)) (fI (d : Int)) = 0 := by
      unfold sqrF farF
      rw [sub_self (by omega) (by omega)]
      show (floatBits .mul .f64 0 0).getD 0 = 0
      decide +kernel
    rw [e1]
    decide +kernel
theorem fI_lt_inf {d : Nat} (h : d < 9007199254740992) : fI (d : Int) < 9218868437227405312 := by
  obtain ⟨R, e1, e2, e3⟩ := fI_x (k := (d : Int)) (by omega)
  rw [e1, decide_eq_false (by omega), word_f]
  exact e2
theorem leF_one (a x : Nat) : leF a [x] = if FloatKind.f64.format.order x a == some .lt then x else a := rfl
theorem moF_one (a x : Nat) : moF a [x] = if FloatKind.f64.format.order x a == some .gt then x else a := rfl
theorem rep_le {x J : Nat} (h : x < J) (hJ : Pw J) (hx : Pw x) : ∀ k : Nat, leF J (List.replicate (k + 1) x) = x
  | 0 => by
    rw [show List.replicate (0 + 1) x = [x] from rfl, leF_one, ord_pos hx hJ, Nat.compare_eq_lt.2 h]
    rfl
  | k + 1 => by
    rw [List.replicate_succ', leF_snoc, rep_le h hJ hx k, ord_pos hx hx, Nat.compare_eq_eq.2 rfl]
    rfl
theorem rep_mo {x : Nat} (hx : Pw x) : ∀ k : Nat, moF (infW true) (List.replicate (k + 1) x) = x
  | 0 => by
    rw [show List.replicate (0 + 1) x = [x] from rfl, moF_one, (ord_ninf hx).1]
    rfl
  | k + 1 => by
    rw [List.replicate_succ', moF_snoc, rep_mo hx k, ord_pos hx hx, Nat.compare_eq_eq.2 rfl]
    rfl
theorem ord_self {x : Nat} (h : Pw x) : (FloatKind.f64.format.order x x == some .eq) = true := by
  rw [ord_pos h h, Nat.compare_eq_eq.2 rfl]
  rfl
theorem quo_some {x y r k : Nat} (h : quoP x y r) (e : floatBits .quo .f64 x y = some k) : r = k := by
  rcases h with h | h
  · rw [e] at h; injection h with h; exact h.symm
  · rw [e] at h; cases h.1
end Fl
/-- what Of tells of them -/
theorem ev_of {d k r m s : Nat} (hd : 0 < d) (hd2 : d ≤ 65536) (hk : 0 < k) (hk2 : k ≤ 65) (h : OfV (evT d (k + 1)) ((d * (k + 1) : Nat) : Int) r m s) : m = fI (d : Int) ∧ s = 0 ∧ floatBits .quo .f64 4607182418800017408 (fI (d : Int)) = some r ∧ Pw r := by
  have hb : k * d ≤ 65 * 65536 := Nat.mul_le_mul hk2 hd2
  have h1 := h.mn
  rw [ev_gp, List.map_replicate, List.length_replicate, rep_sum k (by omega) (by omega)] at h1
  have hm : m = fI (d : Int) := quo_some h1 (by
    have := quo_fI (a := d) (b := k) (by omega) hk (by rw [Nat.mul_comm]; omega)
    rw [Nat.mul_comm d k] at this
    exact this)
  have h2 := h.sp
  rw [ev_gp, List.map_replicate, List.length_replicate, hm, rep_sq (by omega)] at h2
  have hs : s = 0 := quo_some h2 (by
    have := quo_fI (a := 0) (b := k) (by omega) hk (by rw [Nat.zero_mul]; decide)
    rw [Nat.zero_mul, show ((0 : Nat) : Int) = 0 from rfl, fI_0] at this
    exact this)
  have h3 := h.rt
  rw [ev_len] at h3
  have hb2 : d * (k + 1) ≤ 65536 * 66 := Nat.mul_le_mul hd2 (by omega)
  have hq := quo_part (n := k + 1) (d := d) (by omega) hd (by omega)
  obtain ⟨T, t1, t2⟩ := quo_fI2 (a := 1) (b := d) (by decide) (by omega) hd
  rw [show fI ((1 : Nat) : Int) = fI 1 from rfl] at t1
  have hr : r = Ieee.double.word false T := quo_some h3 (hq.trans t1)
  refine ⟨hm, hs, ?_, ?_⟩
  · rw [← fI_1, hr]; exact t1
  · rw [hr, word_f]
    exact (t2 un d hd (by rw [Nat.one_mul])).rg
theorem ev_le {d k : Nat} (hd2 : d ≤ 65536) (hk : 0 < k) : leV (evT d (k + 1)) = fI (d : Int) := by
  obtain ⟨j, rfl⟩ : ∃ j, k = j + 1 := ⟨k - 1, by omega⟩
  unfold leV
  rw [ev_gp, List.map_replicate]
  exact rep_le (fI_lt_inf (by omega)) (Nat.le_refl _) (fI_pw (by omega)) j
theorem ev_mo {d k : Nat} (hd2 : d ≤ 65536) (hk : 0 < k) : moV (evT d (k + 1)) = fI (d : Int) := by
  obtain ⟨j, rfl⟩ : ∃ j, k = j + 1 := ⟨k - 1, by omega⟩
  unfold moV
  rw [ev_gp, List.map_replicate]
  exact rep_mo (fI_pw (by omega)) j
end Go.Proofs.Ytiecneefommdlaa
