/- Layers 1 and 2 of the program, joined: what each part says stands ahead of it. -/
import Derived.Lib.Repeat
import Derived.Test.YtpnhefjiobnelaaProg
import Derived.Test.YtpnhefjiobnelaaGM
import Derived.WalkKit
import Derived.WalkLawsBesides
import Derived.WalkSpells
import Derived.Deep.QuietTactic
import Derived.BigQuiet
import Derived.Deep.RegionWith
import Derived.Deep.OwnRows
import Derived.Laws.BytesArg
import Derived.Laws.Bits128
import Derived.Lib.Builder
import Derived.Lib.AppendIntMem
import Derived.Deep.RegionLaw
import Derived.Laws.AppendOwn
import Derived.Lib.Bytealg
import Derived.Lib.Index
import Derived.Lib.Strings
/- Library. -/

/- Layer 1, as far as layer 2 calls it: contracts of the program and of the reference. -/
namespace Go.Proofs.Ytpnhefjiobnelaa
open Go.RowKit Lg
set_option linter.unusedVariables false

theorem ret_int {k : IntKind} {a b : Int} (h : a = b) : Ending.returned (.int k a) = .returned (.int k b) := by rw [h]
theorem ret_bool {a b : Bool} (h : a = b) : Ending.returned (.bool a) = .returned (.bool b) := by rw [h]
theorem ret_str {a b : ByteArray} (h : a = b) : Ending.returned (.string a) = .returned (.string b) := by rw [h]

def widB (n : Int) : Bool := decide (1 ≤ n ∧ n ≤ 256)
theorem vec_of_all {s : ByteArray} (h : (L s).all bitB = true) : vec (L s) = decide (1 ≤ s.size ∧ s.size ≤ 256) := by unfold vec; rw [h, len_L]; simp
theorem vec_no_all {s : ByteArray} (h : (L s).all bitB = false) : vec (L s) = false := by unfold vec; rw [h]; simp
theorem vec_no_len {s : ByteArray} (h : ¬ (1 ≤ s.size ∧ s.size ≤ 256)) : vec (L s) = false := by unfold vec; rw [len_L]; simp [h]

theorem repeat_rep (c : UInt8) (n : Nat) : (⟨(Lib.repeatL [c] n).toArray⟩ : ByteArray) = S (rep n c) := by
  unfold S rep
  congr 2
  induction n with
  | zero => rfl
  | succ n ih => simp only [Lib.repeatL, List.replicate_succ]; rw [ih]; rfl

theorem ext_fit {s : ByteArray} {n : Nat} (h1 : 1 ≤ n) (h2 : n ≤ s.size) : s.extract (s.size - 1 - (n - 1)) (s.size - 0) = S (fit (L s) n) := by
  apply L_inj
  rw [L_extract, L_S]
  unfold fit
  rw [if_pos (by rw [len_L]; exact h2), len_L, List.take_of_length_le (by simp [len_L] <;> omega)]
  congr 1; omega
theorem app_fit {s : ByteArray} {n : Nat} (h : s.size < n) : S (rep (n - s.size) 48) ++ s = S (fit (L s) n) := by
  apply L_inj
  rw [L_append, L_S, L_S]
  unfold fit rep
  rw [if_neg (by rw [len_L]; omega), len_L]

/-- so many bytes, each by its place -/
theorem str_tab (n : Nat) (f : Nat → UInt8) : strOfNums ((tab n f).map fun c => (c.toNat : Int)) = S (tab n f) := by
  apply L_inj
  rw [L_S, L, strOfNums_data, List.map_map]
  exact (List.map_congr_left (by intro c _; simp)).trans (List.map_id _)
theorem tab_getD (n : Nat) (f : Nat → UInt8) (i : Nat) (h : i < n) : ((tab n f).map fun c => (c.toNat : Int)).getD i 0 = ((f i).toNat : Int) := by
  simp [tab, h]
/-- the row of bytes that a loop fills from its beginning -/
def up (f : Nat → UInt8) (k : Nat) : Nat → Value := fun j => if j < k then .int .u8 (f j).toNat else .int .u8 0
def down (n : Nat) (f : Nat → UInt8) (k : Nat) : Nat → Value := fun j => if n - k ≤ j then .int .u8 (f j).toNat else .int .u8 0

theorem up_step (f : Nat → UInt8) (k : Nat) (v : Value) (hv : v = .int .u8 (f k).toNat) (j : Nat) : (if j = k then v else up f k j) = up f (k + 1) j := by
  unfold up
  by_cases h : j = k
  · subst h; simp [hv]
  · rw [if_neg h]; by_cases h2 : j < k
    · rw [if_pos h2, if_pos (by omega)]
    · rw [if_neg h2, if_neg (by omega)]
theorem down_step (n : Nat) (f : Nat → UInt8) (k i : Nat) (hk : k < n) (hi : i = n - 1 - k) (v : Value) (hv : v = .int .u8 (f i).toNat) (j : Nat) : (if j = i then v else down n f k j) = down n f (k + 1) j := by
  unfold down
  by_cases h : j = i
  · subst h; rw [if_pos rfl, if_pos (by omega), hv]
  · rw [if_neg h]; by_cases h2 : n - k ≤ j
    · rw [if_pos h2, if_pos (by omega)]
    · rw [if_neg h2, if_neg (by omega)]
theorem made_up (w : World) (f : Nat → UInt8) (n b : Nat) (hb : w.heap.size = b) : (w.alloc (.cells (madeCells #[.int .u8 0] n) 5)).rowIs b 5 n (up f 0) := by
  subst hb; exact (World.rowIs_made _ _ _ _).congr (fun j _ => by simp [up])
theorem made_down (w : World) (f : Nat → UInt8) (n b : Nat) (hb : w.heap.size = b) : (w.alloc (.cells (madeCells #[.int .u8 0] n) 5)).rowIs b 5 n (down n f 0) := by
  subst hb; exact (World.rowIs_made _ _ _ _).congr (fun j hj => by unfold down; rw [if_neg (by omega)])
theorem make_c (n : Nat) (hn : n ≤ 140737488355328) (w : World) : (Instr.makeSlice 112 (.int .i64 n) (.int .i64 n)).run Try.prog w = .ok (.slice (some ⟨w.heap.size, 0, none⟩) n n) (w.alloc (.cells (madeCells #[.int .u8 0] n) 5)) :=
  run_make_row' (P := Try.prog) 112 5 (.int .u8 0) 1 Try.underlying112 (by kernel_rfl) rfl .i64 .i64 n (by omega) (by omega) w
theorem conv_c (n b : Nat) (f : Nat → UInt8) (g : Nat → Value) (w : World) (h : w.rowIs b 5 n g) (hg : ∀ j, j < n → g j = .int .u8 (f j).toNat) : (convert 112 9 (.slice (some ⟨b, 0, none⟩) n n)).run Try.prog w = .ok (.string (S (tab n f))) w := by
  rw [← str_tab]
  refine run_convert_bytes_arg (P := Try.prog) w 112 5 Try.underlying112 Try.underlying5 b 0 n n _ (by simp [tab]) (fun i hi => ?_) 9 Try.underlying9
  rw [Nat.zero_add, h.cell hi, hg i hi, tab_getD n f i hi]

theorem i64_and1 (n : Int) : bits .and .i64 n 1 = n % 2 := by
  have h1 : (BitVec.ofInt 64 1).toNat = 2 ^ 1 - 1 := by decide
  have key : (BitVec.ofInt 64 n &&& BitVec.ofInt 64 1).toNat = (n % ((2 ^ 64 : Nat) : Int)).toNat % 2 ^ 1 := by
    rw [BitVec.toNat_and, BitVec.toNat_ofInt, h1, Nat.and_two_pow_sub_one_eq_mod]
  show IntKind.i64.wrap ((BitVec.ofInt 64 n &&& BitVec.ofInt 64 1).toNat : Nat) = n % 2
  rw [key, IntKind.wrap_i64]
  omega
theorem bel {w a b : World} (h : Below w.heap.size w a) (k : Below a.heap.size a b) : Below w.heap.size w b := h.trans (k.mono h.size)
theorem belA {w a : World} (h : Below w.heap.size w a) (o : Obj) : Below w.heap.size w (a.alloc o) := h.alloc h.size o
theorem belD {w : World} : Below w.heap.size w w.drew := (Below.refl _ _).drew

set_option maxRecDepth 100000 in
/-- a string of one byte, made out of a slice of it -/
theorem one_c (c : UInt8) (w : World) : (convert 112 9 (.slice (some ⟨w.heap.size, 0, none⟩) 1 1)).run Try.prog (w.alloc (.cells #[.int .u8 c.toNat] 5)) = .ok (.string (S [c])) (w.alloc (.cells #[.int .u8 c.toNat] 5)) := by
  have h := run_convert_bytes_arg (P := Try.prog) (w.alloc (.cells #[.int .u8 c.toNat] 5)) 112 5 Try.underlying112 Try.underlying5 w.heap.size 0 1 1 [(c.toNat : Int)] rfl (fun i hi => by
    obtain rfl : i = 0 := by omega
    rw [World.cell?_alloc_at _ _ _ _ rfl]; rfl) 9 Try.underlying9
  rw [h]; congr 2; apply L_inj; rw [L_S, L, strOfNums_data]; simp

/-- two results -/
theorem ret_si {a b : ByteArray} {n : Int} (h : a = b) : Ending.returned (.tuple #[.string a, .int .i64 n]) = .returned (.tuple #[.string b, .int .i64 n]) := by rw [h]
theorem tup2 {s t : List UInt8} {a b : Int} (h : t = s ∧ b = a) : Ending.returned (.tuple #[.string (S s), .int .i64 a]) = .returned (.tuple #[.string (S t), .int .i64 b]) := by rw [h.1, h.2]

theorem tupS {s : ByteArray} {t : List UInt8} {a b : Int} (h : t = L s ∧ b = a) : Ending.returned (.tuple #[.string s, .int .i64 a]) = .returned (.tuple #[.string (S t), .int .i64 b]) := by rw [h.1, h.2, S_L]

def fitA (a : List UInt8) (n : Int) : List UInt8 := if n < 1 ∨ 256 < n then [] else if vec a then fit a n.toNat else []
def fitE (a : List UInt8) (n : Int) : Int := if n < 1 ∨ 256 < n then 1 else if vec a then 0 else 10
theorem ofBit_nat (n w k i m : Nat) (hk : k < w) (hi : i = w - 1 - k) (hm : m = n / 2 ^ k) : ((ofBit n w i).toNat : Int) = 48 + ((m : Nat) : Int) % 2 := by
  have e : w - 1 - i = k := by omega
  unfold ofBit
  rw [e, ← hm]
  by_cases h : m % 2 = 1
  · rw [if_pos h]; have : ((49 : UInt8).toNat : Int) = 49 := rfl; omega
  · rw [if_neg h]; have : ((48 : UInt8).toNat : Int) = 48 := rfl; omega
theorem half_step (n k m : Nat) (hm : m = n / 2 ^ k) : m / 2 = n / 2 ^ (k + 1) := by
  rw [hm, Nat.pow_succ, Nat.div_div_eq_div_mul]

set_option maxHeartbeats 1000000 in
theorem rOf_c (N W : Nat) (w : World) (hN : N ≤ 9223372036854775807) (hW1 : 1 ≤ W) (hW2 : W ≤ 256) : Calls Try.prog 41 #[.int .i64 N, .int .i64 W] w fun e w' => e = .returned (.string (S (ofL N W))) ∧ Below w.heap.size w w' := by
  have hmk := make_c W (by omega)
  go_enter Try.func41, Try.ntmps41
  go_wp2
  go_loopw [0, 6] (fun nv i wr => ∃ k m : Nat, k ≤ W ∧ i = .int .i64 ((W : Int) - 1 - k) ∧ nv = .int .i64 m ∧ m ≤ 9223372036854775807 ∧ Hid (m = N / 2 ^ k) ∧ Hid (Below w.heap.size w wr) ∧ Hid (wr.rowIs w.heap.size 5 W (down W (ofBit N W) k))) (fun _ i _ => (intOf i + 1).toNat)
  case atStart => exact ⟨0, N, Nat.zero_le _, by go_num, rfl, by omega, by simp [Hid], (Below.refl _ _).alloc (by simp) _, made_down _ _ _ _ (by simp)⟩
  case round =>
    obtain ⟨k, m, hk, rfl, rfl, hm, HM, hb, hr⟩ := hrel
    by_cases hlt : k < W
    · obtain ⟨i, hi⟩ : ∃ i, W = i + 1 + k := ⟨W - 1 - k, by omega⟩
      have hi1 : i < W := by omega
      have hi2 : (i : Int) < (W : Int) := by omega
      have e1 : (W : Int) - 1 - (k : Int) = (i : Int) := by omega
      have hc1 : wr.cell? ⟨w.heap.size, i, none⟩ = some (.int .u8 0) := by rw [hr.out.cell hi1]; unfold down; rw [if_neg (by omega)]
      have hf1 : wr.frozen? ⟨w.heap.size, i, none⟩ = false := hr.out.frozen _
      have HI : Hid (W = i + 1 + k) := hi
      clear hi
      rw [e1]
      go_wp2
      go_roundw
      case rel =>
        refine ⟨k + 1, m / 2, by omega, by go_num, by go_num, by omega, half_step N k m HM.out, hb.out.setCell (by simp) _, ?_⟩
        refine World.rowIs.congr (World.rowIs.set hr.out i _) (fun j _ => down_step _ _ k i hlt (by have := HI.out; omega) _ ?_ j)
        rw [ofBit_nat N W k i m hlt (by have := HI.out; omega) HM.out]
      case measure => simp [intOf] <;> omega
    · have hcv := conv_c W w.heap.size (ofBit N W) _ wr hr.out (fun j hj => by unfold down; rw [if_pos (by omega)])
      have e2 : (W : Int) - 1 - (k : Int) = -1 := by omega
      rw [e2]
      go_wp2
      go_ret
      exact ⟨ret_str rfl, hb.out⟩
theorem ret_u8 {a : Int} {b : UInt8} (h : (b.toNat : Int) = a) : Ending.returned (.int .u8 a) = .returned (.int .u8 (b.toNat : Int)) := by rw [h]
set_option maxHeartbeats 1000000 in
theorem rAll_c (c : UInt8) (n : Nat) (w : World) (hn : n ≤ 1000000) : Calls Try.prog 43 #[.int .u8 c.toNat, .int .i64 n] w fun e w' => e = .returned (.string (S (rep n c))) ∧ Below w.heap.size w w' := by
  have hmk := make_c n (by omega)
  go_enter Try.func43, Try.ntmps43
  go_wp2
  go_loopw [6] (fun i wr => ∃ k : Nat, k ≤ n ∧ i = .int .i64 k ∧ Hid (Below w.heap.size w wr) ∧ Hid (wr.rowIs w.heap.size 5 n (up (fun _ => c) k))) (fun i _ => n - (intOf i).toNat)
  case atStart => exact ⟨0, Nat.zero_le _, rfl, (Below.refl _ _).alloc (by simp) _, made_up _ _ _ _ (by simp)⟩
  case round =>
    obtain ⟨k, hk, rfl, hb, hr⟩ := hrel
    by_cases hlt : k < n
    · have hc1 : wr.cell? ⟨w.heap.size, k, none⟩ = some (.int .u8 0) := by rw [hr.out.cell hlt]; simp [up]
      have hf1 : wr.frozen? ⟨w.heap.size, k, none⟩ = false := hr.out.frozen _
      have hkI : (k : Int) < (n : Int) := by omega
      go_wp2
      go_roundw
      case rel => exact ⟨k + 1, by omega, by go_num, hb.out.setCell (by simp) _, (hr.out.set k _).congr (fun j _ => up_step _ k _ rfl j)⟩
      case measure => simp [intOf]; omega
    · have hcv := conv_c n w.heap.size (fun _ => c) _ wr hr.out (fun j hj => by unfold up; rw [if_pos (by omega)])
      rw [rep_tab] at hcv
      go_wp2
      go_ret
      exact ⟨rfl, hb.out⟩

theorem fit_str (s : ByteArray) (n : Nat) (h : n ≤ s.size) : s.extract (s.size - n) s.size = S (fit (L s) n) := by
  apply L_inj; rw [L_extract, L_S]; unfold fit; rw [if_pos (by rw [len_L]; exact h), len_L, List.take_of_length_le (by rw [List.length_drop, len_L]; omega)]
set_option maxHeartbeats 400000 in
theorem rFit_c (s : ByteArray) (n : Nat) (w : World) (hs : s.size ≤ maxLen) (h2 : n ≤ 100000) : Calls Try.prog 44 #[.string s, .int .i64 n] w fun e w' => e = .returned (.string (S (fit (L s) n))) ∧ Below w.heap.size w w' := by
  by_cases h : n ≤ s.size
  · unfold maxLen at hs
    obtain ⟨m, hm⟩ : ∃ m, s.size = m + n := ⟨s.size - n, by omega⟩
    have e1 : (s.size : Int) - (n : Int) = (m : Int) := by omega
    have hm1 : m ≤ s.size := by omega
    have HF : Hid (s.extract m s.size = S (fit (L s) n)) := by have := fit_str s n h; rw [show s.size - n = m by omega] at this; exact this
    clear hm
    go_enter Try.func44, Try.ntmps44
    go_wp2
    go_ret
    exact ⟨ret_str HF.out, Below.refl _ _⟩
  · have hz : (S (rep (n - s.size) 48)).size = n - s.size := by rw [size_S, len_rep]
    unfold maxLen at hs
    go_enter Try.func44, Try.ntmps44
    go_wp2_with fail
    rw [show ((n : Int) - (s.size : Int)) = ((n - s.size : Nat) : Int) from by omega]
    refine (rAll_c 48 (n - s.size) _ (by omega)).mono ?_
    rintro e w' ⟨rfl, hb⟩
    go_wp2
    go_ret
    exact ⟨ret_str (app_fit (by omega)), hb⟩

end Go.Proofs.Ytpnhefjiobnelaa

/- Layer 2 of the program: letters, digits, whole numbers. -/
namespace Go.Proofs.Ytpnhefjiobnelaa
open Go.RowKit Lg
set_option linter.unusedVariables false
set_option linter.unusedSimpArgs false

theorem digB_iff (c : UInt8) : digB c = decide (48 ≤ (c.toNat : Int) ∧ (c.toNat : Int) ≤ 57) := by unfold digB; rw [Bool.eq_iff_iff]; simp; omega
theorem letB_iff (c : UInt8) : letB c = decide ((97 ≤ (c.toNat : Int) ∧ (c.toNat : Int) ≤ 122) ∨ (65 ≤ (c.toNat : Int) ∧ (c.toNat : Int) ≤ 90) ∨ (c.toNat : Int) = 95) := by unfold letB; rw [Bool.eq_iff_iff]; simp; omega

theorem drop_cons (s : ByteArray) (k : Nat) (h : k < s.size) : (L s).drop k = s[k] :: (L s).drop (k + 1) := by
  rw [List.drop_eq_getElem_cons (by rw [len_L]; exact h)]; rfl
theorem drop_all (s : ByteArray) (k : Nat) (h : s.size ≤ k) : (L s).drop k = [] := List.drop_of_length_le (by rw [len_L]; exact h)
theorem tupNB {a : Int} {b : Bool} {c : Int} {d : Bool} (h : c = a ∧ d = b) : Ending.returned (.tuple #[.int .i64 a, .bool b]) = .returned (.tuple #[.int .i64 c, .bool d]) := by rw [h.1, h.2]
theorem toL (s : ByteArray) : s.toList = L s := Go.ByteArray.toList_eq s
theorem empty_L (s : ByteArray) : (L s = []) ↔ s.size = 0 := by rw [← len_L, List.length_eq_zero_iff]

end Go.Proofs.Ytpnhefjiobnelaa

/- Layer 2 of the program: digits, and numbers by a base. -/
namespace Go.Proofs.Ytpnhefjiobnelaa
open Go.RowKit Lg
set_option linter.unusedVariables false
set_option linter.unusedSimpArgs false

theorem tupSB {s : ByteArray} {t : List UInt8} {b d : Bool} (h : t = L s ∧ d = b) : Ending.returned (.tuple #[.string s, .bool b]) = .returned (.tuple #[.string (S t), .bool d]) := by rw [h.1, h.2, S_L]
theorem conv120 (w : World) : (convert 5 9 (.int .u8 120)).run Try.prog w = .ok (.string ⟨#[120]⟩) w := by kernel_rfl
theorem conv122 (w : World) : (convert 5 9 (.int .u8 122)).run Try.prog w = .ok (.string ⟨#[122]⟩) w := by kernel_rfl
theorem ofL_ok (n k : Nat) (h1 : 1 ≤ k) (h2 : k ≤ 256) : ofA n k = ofL n k ∧ ofE n k = 0 := by
  unfold ofA ofE; rw [if_neg (by omega), if_neg (by omega)]; exact ⟨rfl, rfl⟩
theorem rep_L (s : ByteArray) (c : UInt8) (n : Nat) (h : s = ⟨(Lib.repeatL [c] n).toArray⟩) : L s = rep n c := by rw [h, repeat_rep, L_S]

theorem hex_none {c : UInt8} (h : hexV c = none) : digB c = false ∧ ((c.toNat : Int) < 97 ∨ 102 < (c.toNat : Int)) ∧ ((c.toNat : Int) < 65 ∨ 70 < (c.toNat : Int)) := by
  unfold hexV at h
  split at h
  · cases h
  · split at h
    · cases h
    · split at h
      · cases h
      · exact ⟨by simp_all, by omega, by omega⟩
theorem byte_of {c : UInt8} (n : Nat) (d : UInt8) (h : c.toNat = n) (hd : d.toNat = n) : c = d := by rw [← UInt8.toNat_inj, h, hd]
theorem hex_some {c : UInt8} {n : Nat} (h : hexV c = some n) : c = 48 ∨ c = 49 ∨ c = 50 ∨ c = 51 ∨ c = 52 ∨ c = 53 ∨ c = 54 ∨ c = 55 ∨ c = 56 ∨ c = 57 ∨ c = 97 ∨ c = 98 ∨ c = 99 ∨ c = 100 ∨ c = 101 ∨ c = 102 ∨ c = 65 ∨ c = 66 ∨ c = 67 ∨ c = 68 ∨ c = 69 ∨ c = 70 := by
  have h2 : (48 ≤ c.toNat ∧ c.toNat ≤ 57) ∨ (97 ≤ c.toNat ∧ c.toNat ≤ 102) ∨ (65 ≤ c.toNat ∧ c.toNat ≤ 70) := by
    unfold hexV at h
    split at h
    · rename_i h1; simp [digB] at h1; exact Or.inl h1
    · split at h
      · rename_i h1; exact Or.inr (Or.inl h1)
      · split at h
        · rename_i h1; exact Or.inr (Or.inr h1)
        · cases h
  simp only [← UInt8.toNat_inj]
  simp
  omega
theorem toI (c : UInt8) (d : UInt8) : ((c.toNat : Int) = (d.toNat : Int)) ↔ c = d := by rw [← UInt8.toNat_inj]; omega

end Go.Proofs.Ytpnhefjiobnelaa

/- Layer 2 of the program: digits, one by one. -/
namespace Go.Proofs.Ytpnhefjiobnelaa
open Go.RowKit Lg
set_option linter.unusedVariables false
set_option linter.unusedSimpArgs false

end Go.Proofs.Ytpnhefjiobnelaa

/- Layer 2 of the program: digits, one by one. -/
namespace Go.Proofs.Ytpnhefjiobnelaa
open Go.RowKit Lg
set_option linter.unusedVariables false
set_option linter.unusedSimpArgs false

end Go.Proofs.Ytpnhefjiobnelaa

/- Layer 2 of the program: bits cut or widened. -/
namespace Go.Proofs.Ytpnhefjiobnelaa
open Go.RowKit Lg
set_option linter.unusedVariables false
set_option linter.unusedSimpArgs false

theorem headD_at (s : ByteArray) (h : 0 < s.size) : s[0] = hd0 (L s) := by
  have := drop_cons s 0 h
  rw [List.drop_zero] at this
  rw [this]; rfl
theorem ext1 (s : ByteArray) (h : 0 < s.size) : s.extract 0 1 = ⟨#[s[0]]⟩ := by
  apply L_inj
  rw [L_extract, List.drop_zero]
  have := drop_cons s 0 h
  rw [List.drop_zero] at this
  rw [this]; rfl
theorem fit_ok {l : List UInt8} {n : Nat} (h : vec l = true) (h1 : 1 ≤ n) (h2 : n ≤ 256) : fitA l n = fit l n ∧ fitE l n = 0 := by
  have hh : ¬ ((n : Int) < 1 ∨ 256 < (n : Int)) := by omega
  unfold fitA fitE; rw [if_neg hh, if_neg hh, if_pos h, if_pos h]; exact ⟨rfl, rfl⟩
theorem headI (s : ByteArray) (h : 0 < s.size) (d : UInt8) : (((s[0].toNat : Nat) : Int) == (d.toNat : Int)) = (hd0 (L s) == d) := by
  rw [← headD_at s h, Bool.eq_iff_iff, beq_iff_eq, beq_iff_eq, ← UInt8.toNat_inj]; omega

end Go.Proofs.Ytpnhefjiobnelaa

/- Layer 2 of the program: digits by a base. -/
namespace Go.Proofs.Ytpnhefjiobnelaa
open Go.RowKit Lg
set_option linter.unusedVariables false
set_option linter.unusedSimpArgs false

theorem heap_lt {w : World} {g : Nat} {o : Obj} (h : w.heap[g]? = some o) : g < w.heap.size := by
  rcases Nat.lt_or_ge g w.heap.size with h' | h'
  · exact h'
  · simp [Array.getElem?_eq_none h'] at h
theorem owns_keep {w w' : World} (hb : Below w.heap.size w w') {B n z : Nat} {e : TypeId} {v : Value} {xs : List Value} (h : w.ownsRow B e z v n xs) : w'.ownsRow B e z v n xs := by
  obtain ⟨h1, h2⟩ := h
  refine ⟨h1, ?_⟩
  rcases h2 with h2 | ⟨g, cap, cur, hv, hg, hh, r⟩
  · exact Or.inl h2
  · exact Or.inr ⟨g, cap, cur, hv, hg, by rw [hb.block g (heap_lt hh)]; exact hh, r⟩
theorem buildAt_keep {w w' : World} (hb : Below w.heap.size w w') {T e : TypeId} {B b : Nat} {p : Value} {bs : List Value} (h : Lib.BuilderAt T e B b p bs w) : Lib.BuilderAt T e B b p bs w' := by
  obtain ⟨h1, v, hh, ho, hn⟩ := h
  exact ⟨h1, v, by rw [hb.block b (heap_lt hh)]; exact hh, owns_keep hb ho, hn⟩
theorem build_keep {w w' : World} (hb : Below w.heap.size w w') {T e : TypeId} {B b : Nat} {bs : List Value} (h : Lib.IsBuilder T e B b bs w) : Lib.IsBuilder T e B b bs w' := by
  rcases h with h | h
  · exact Or.inl (buildAt_keep hb h)
  · exact Or.inr (buildAt_keep hb h)
theorem byteCells_app (a b : List UInt8) : Lib.byteCells (a ++ b) = Lib.byteCells a ++ Lib.byteCells b := by simp [Lib.byteCells]
theorem byteCells_len (a : List UInt8) : (Lib.byteCells a).length = a.length := by simp [Lib.byteCells]
theorem strCells_S (a : List UInt8) : Lib.strCells (S a) = Lib.byteCells a := rfl
theorem cat_one {k : Nat} {c : UInt8} {b : List UInt8} (h : dgt k c = some b) : cat k [c] = some b := by simp [cat, h]
theorem cat_snoc {k : Nat} {l x b : List UInt8} {c : UInt8} (h : cat k l = some x) (hd : dgt k c = some b) : cat k (l ++ [c]) = some (x ++ b) := by
  rw [cat_append, h, cat_one hd]; rfl
theorem cat_bad {k : Nat} (s : ByteArray) (i : Nat) (h : i < s.size) (hd : dgt k s[i] = none) : cat k (L s) = none := by
  rw [← List.take_append_drop i (L s), drop_cons s i h, cat_append]
  cases cat k ((L s).take i) with
  | none => rfl
  | some x => simp [cat, hd]
theorem tail_step (s : ByteArray) (i n : Nat) (h : i < s.size) (hn : s.size - n ≤ i) : ((L s).take (i + 1)).drop (s.size - n) = ((L s).take i).drop (s.size - n) ++ [s[i]] := by
  rw [take_snoc s i h, List.drop_append_of_le_length (by rw [List.length_take, len_L]; omega)]
theorem tail_none (s : ByteArray) (i n : Nat) (h : i ≤ s.size - n) : ((L s).take i).drop (s.size - n) = [] := List.drop_of_length_le (by rw [List.length_take]; omega)
theorem tupOS {a b : Option (List UInt8)} (h : a = b) : Ending.returned (.tuple #[.string (S (oS a)), .bool (oB a)]) = .returned (.tuple #[.string (S (oS b)), .bool (oB b)]) := by rw [h]

end Go.Proofs.Ytpnhefjiobnelaa

/- Layer 2 of the program: the reader keeps a token. -/
namespace Go.Proofs.Ytpnhefjiobnelaa
open Go.RowKit Lg
set_option linter.unusedVariables false
set_option linter.unusedSimpArgs false

theorem step_append_own {P : Program} {ops : Array Oper} {o : Oper} {a : Act} {w : World} {K : Act → World → Prop} {Q : Exit → Act → World → Prop} {E : Prop}
    (hg : o.guard = none) (s x : Operand) (t : TypeId) (hop : o.op = Op.call { callee := Callee.builtin Builtin.append, args := #[s, x], argTypes := #[t, t] })
    (base : Nat) (e : TypeId) (i : TypeInfo) (z : Value) (size bytes : Nat) (h1 : P.underlying t = some (.slice e)) (h2 : P.info? e = some i) (h3 : i.zero = some z) (h4 : i.size = size) (h5 : i.bytes = bytes) (h6 : z.cells.size = size) (h7 : 0 < size)
    (v : Value) (n : Nat) (xs : List Value) (hs : a.eval s = v) (hown : w.ownsRow base e size v n xs)
    (ad : Addr) (m c : Nat) (news : List Value) (hx : a.eval x = .slice (some ad) m c) (hn : news.length = m * size) (hc : ∀ j u, news[j]? = some u → w.cell? (ad.add j) = some u) (h1c : ∀ u ∈ news, u.oneCell' = true)
    (b1 : n + m ≤ maxLen) (b2 : (n + m) * bytes ≤ 140737488355328) (hbase : base ≤ w.heap.size)
    (hK : ∀ v' w', w'.ownsRow base e size v' (n + m) (xs ++ news) → w.grownBy w' v.ownBlock → K (a.put o.dst v') w') :
    if Region.wanted o (yielded ops a.tmps) = true then Oper.wp P o a w K Q else E := by
  have hw : Region.wanted o (yielded ops a.tmps) = true := by simp [Region.wanted, hg]
  rw [if_pos hw]
  exact wp_append_own w s x t hop base e i z size bytes h1 h2 h3 h4 h5 h6 h7 v n xs hs hown ad m c news hx hn hc h1c b1 b2 hbase fun v' w' p q _ => hK v' w' p q

def tcell (t : Tok) : List Value := [.int .i64 t.k, .string (S t.x), .int .i64 t.p]
def tcells (ts : List Tok) : List Value := ts.flatMap tcell
theorem tcells_app (a b : List Tok) : tcells (a ++ b) = tcells a ++ tcells b := List.flatMap_append
theorem tcells_one (t : Tok) : tcells [t] = tcell t := by simp [tcells]
theorem tcells_len (a : List Tok) : (tcells a).length = a.length * 3 := by
  induction a with
  | nil => rfl
  | cons t a ih => rw [show tcells (t :: a) = tcell t ++ tcells a from rfl, List.length_append, ih, List.length_cons]; show 3 + _ = _; omega
theorem slice_of {w : World} {B e z n : Nat} {v : Value} {xs : List Value} (h : w.ownsRow B e z v n xs) : ∃ ao cap, v = .slice ao n cap := by
  rcases h.2 with ⟨rfl, rfl⟩ | ⟨g, cap, cur, rfl, _⟩
  · exact ⟨none, 0, rfl⟩
  · exact ⟨_, _, rfl⟩
theorem rd_cells {w : World} {b : Nat} {x0 x1 x2 x3 : Value} {t : TypeId} (h : w.heap[b]? = some (.cells #[x0, x1, x2, x3] t (0, 0))) :
    w.cell? ⟨b, 0, none⟩ = some x0 ∧ w.cell? ⟨b, 1, none⟩ = some x1 ∧ w.cell? ⟨b, 2, none⟩ = some x2 ∧ w.cell? ⟨b, 3, none⟩ = some x3 ∧ (∀ j, w.frozen? ⟨b, j, none⟩ = false) := by
  refine ⟨?_, ?_, ?_, ?_, fun j => Lib.frozen_of_heap h j⟩ <;> (rw [Lib.cell_of_heap h]; rfl)
theorem infoTok : ∃ i, Try.prog.info? 39 = some i ∧ i.zero = some (.agg #[.int .i64 0, .string .empty, .int .i64 0]) ∧ i.size = 3 ∧ i.bytes = 32 := info_parts (by kernel_rfl)

theorem new3 (w : World) (a b c : Value) (t : TypeId) (j : Nat) (u : Value) (h : [a, b, c][j]? = some u) : (w.alloc (.cells #[a, b, c] t)).cell? ((⟨w.heap.size, 0, none⟩ : Addr).add j) = some u := by
  have e : ((⟨w.heap.size, 0, none⟩ : Addr).add j) = ⟨w.heap.size, j, none⟩ := by simp [Addr.add]; intro h; exact h.symm
  rw [e, World.cell?_alloc_at _ _ _ _ rfl]
  match j, h with
  | 0, h => exact h
  | 1, h => exact h
  | 2, h => exact h
theorem put_cells {w : World} {b : Nat} {x0 x1 x2 x3 : Value} {t : TypeId} (h : w.heap[b]? = some (.cells #[x0, x1, x2, x3] t (0, 0))) :
    (∀ y, (w.setCell ⟨b, 3, none⟩ y).heap[b]? = some (.cells #[x0, x1, x2, y] t (0, 0))) ∧ (∀ y, (w.setCell ⟨b, 1, none⟩ y).heap[b]? = some (.cells #[x0, y, x2, x3] t (0, 0))) ∧ (∀ y, (w.setCell ⟨b, 2, none⟩ y).heap[b]? = some (.cells #[x0, x1, y, x3] t (0, 0))) := by
  refine ⟨?_, ?_, ?_⟩ <;> (intro y; simp only [World.setCell]; rw [Array.getElem?_modify, if_pos rfl, h]; rfl)
theorem owns_set {w : World} {B e z n b j : Nat} {v y : Value} {xs : List Value} (h : w.ownsRow B e z v n xs) (hn : v.ownBlock ≠ some b) : (w.setCell ⟨b, j, none⟩ y).ownsRow B e z v n xs := by
  obtain ⟨h1, h2⟩ := h
  refine ⟨h1, ?_⟩
  rcases h2 with h2 | ⟨g, cap, cur, rfl, hg, hh, r⟩
  · exact Or.inl h2
  · refine Or.inr ⟨g, cap, cur, rfl, hg, ?_, r⟩
    rw [Below.heap_setCell _ _ _ _ (by intro e; exact hn (by rw [e]; rfl))]; exact hh

theorem one3 (k : Int) (x : ByteArray) (p : Int) : ∀ u ∈ [Value.int .i64 k, .string x, .int .i64 p], u.oneCell' = true := by
  intro u hu
  simp at hu
  rcases hu with rfl | rfl | rfl <;> rfl
theorem own_ne {w : World} {B n b : Nat} {v : Value} {xs : List Value} {c : Array Value} {e t z : Nat} (ho : w.ownsRow B e z v n xs) (hb : w.heap[b]? = some (.cells c t (0, 0))) (ht : t ≠ e) : v.ownBlock ≠ some b := by
  rcases ho.2 with ⟨rfl, _⟩ | ⟨g, cap, cur, rfl, _, hg, _⟩
  · simp [Value.ownBlock]
  · intro e1
    simp [Value.ownBlock] at e1
    subst e1
    rw [hb] at hg
    simp at hg
    exact ht hg.2
end Go.Proofs.Ytpnhefjiobnelaa

/- Layer 2 of the program: kinds of bytes, how far they go, signs, comments. -/
namespace Go.Proofs.Ytpnhefjiobnelaa
open Go.RowKit Lg
set_option linter.unusedVariables false
set_option linter.unusedSimpArgs false

theorem cb (c d : UInt8) : (((c.toNat : Nat) : Int) == ((d.toNat : Nat) : Int)) = (c == d) := by
  rw [Bool.eq_iff_iff, beq_iff_eq, beq_iff_eq, ← UInt8.toNat_inj]; omega
theorem ix_has (l : List UInt8) (c : UInt8) : (0 ≤ Lib.indexByte l c) ↔ l.contains c = true := by
  induction l with
  | nil => simp [Lib.indexByte]
  | cons b l ih =>
    simp only [Lib.indexByte, List.contains_cons]
    by_cases h : b = c
    · subst h; simp
    · have h1 : (b == c) = false := by simpa using h
      have h2 : (c == b) = false := by simpa using fun e => h e.symm
      have hge := Lib.indexByte_ge l c
      rw [h1, h2]
      by_cases h3 : Lib.indexByte l c = -1
      · rw [h3]; rw [h3] at ih; simpa using ih
      · have h4 : (Lib.indexByte l c == -1) = false := by simpa using h3
        rw [h4]
        simp
        constructor
        · intro _; have := ih.1 (by omega); simpa using this
        · intro h; have := ih.2 (by simpa using h); omega
def sgI (c : UInt8) : Int := Lib.indexByte signs c
theorem sgI_yes {c : UInt8} (h : sgnB c = true) : 0 ≤ sgI c := (ix_has signs c).2 h
theorem sgI_no {c : UInt8} (h : sgnB c = false) : sgI c < 0 := by
  have := (ix_has signs c)
  unfold sgI
  rcases Int.lt_or_le (Lib.indexByte signs c) 0 with h1 | h1
  · exact h1
  · have := this.1 h1; unfold sgnB at h; rw [this] at h; cases h
end Go.Proofs.Ytpnhefjiobnelaa

/- Layer 2 of the program: how far kinds of bytes go, signs, comments. -/
namespace Go.Proofs.Ytpnhefjiobnelaa
open Go.RowKit Lg
set_option linter.unusedVariables false
set_option linter.unusedSimpArgs false

theorem tw_step {p : UInt8 → Bool} (s : ByteArray) (k : Nat) (h : k < s.size) (hp : p s[k] = true) (hk : ((L s).take k).all p = true) : ((L s).take (k + 1)).all p = true := all_snoc s k h hk hp
theorem tw_stop {p : UInt8 → Bool} (s : ByteArray) (k : Nat) (h : k < s.size) (hp : p s[k] = false) (hk : ((L s).take k).all p = true) : ((L s).takeWhile p).length = k := by
  have e : L s = (L s).take k ++ s[k] :: (L s).drop (k + 1) := by rw [← drop_cons s k h, List.take_append_drop]
  rw [e, List.takeWhile_append_of_pos (by simpa using hk), List.takeWhile_cons, hp]
  simp [len_L]; omega
theorem tw_all {p : UInt8 → Bool} (s : ByteArray) (hk : (L s).all p = true) : ((L s).takeWhile p).length = s.size := by
  rw [← List.append_nil (L s), List.takeWhile_append_of_pos (by simpa using hk)]; simp [len_L]

theorem sgW_two {l : List UInt8} (h : twos.contains (l.take 2) = true) : sgW l = 2 := by unfold sgW; rw [if_pos h]
theorem sgW_one {l : List UInt8} (h : twos.contains (l.take 2) = false) : sgW l = 1 := by unfold sgW; rw [if_neg (by rw [h]; simp)]
theorem two_not {l : List UInt8} (h : l.length < 2) : twos.contains (l.take 2) = false := by
  match l, h with
  | [], _ => rfl
  | [c], _ => simp [twos]
def cmE (l : List UInt8) : Int := Lib.indexByte l 10
def cmI (l : List UInt8) : Int := Lib.index (l.drop 2) [42, 47]
theorem cmE_le (s : ByteArray) : cmE (L s) ≤ s.size := by
  have : ∀ l : List UInt8, Lib.indexByte l 10 ≤ l.length := by
    intro l
    induction l with
    | nil => decide
    | cons c l ih => simp only [Lib.indexByte]; split <;> (try split) <;> simp <;> omega
  rw [← len_L]; exact this _
theorem hp_iff (l : List UInt8) (a b : UInt8) (h : Lib.hasPrefix l [a, b] = true) : ∃ r, l = a :: b :: r := by
  match l, h with
  | [], h => simp [Lib.hasPrefix] at h
  | [x], h => simp [Lib.hasPrefix, List.isPrefixOf] at h
  | x :: y :: r, h =>
    simp [Lib.hasPrefix, List.isPrefixOf] at h
    exact ⟨r, by rw [h.1, h.2]⟩
end Go.Proofs.Ytpnhefjiobnelaa

/- Layer 2 of the program: a number's text. -/
namespace Go.Proofs.Ytpnhefjiobnelaa
open Go.RowKit Lg
set_option linter.unusedVariables false
set_option linter.unusedSimpArgs false

theorem ix39 (l : List UInt8) : Lib.indexByte l 39 = if has39 l then ((pre39 l).length : Int) else -1 := by
  induction l with
  | nil => rfl
  | cons c l ih =>
    simp only [Lib.indexByte]
    by_cases h : c = 39
    · subst h; simp [has39, pre39]
    · have h1 : (c == 39) = false := by simpa using h
      have h2 : has39 (c :: l) = has39 l := by simp [has39, h1]
      have h3 : pre39 (c :: l) = c :: pre39 l := by simp [pre39, List.takeWhile_cons, h]
      rw [h1, h2, h3, ih]
      cases has39 l <;> simp <;> omega
theorem no39 {l : List UInt8} (h : has39 l = false) : pre39 l = l ∧ pos39 l = [] := by
  induction l with
  | nil => exact ⟨rfl, rfl⟩
  | cons c l ih =>
    have hc : ¬ c = 39 := by intro e; subst e; simp [has39] at h
    have h1 : (c == 39) = false := by simpa using hc
    have h2 : has39 l = false := by simpa [has39, h1] using h
    have h3 : pre39 (c :: l) = c :: pre39 l := by simp [pre39, List.takeWhile_cons, hc]
    have h4 : pos39 (c :: l) = pos39 l := by simp [pos39, List.dropWhile_cons, hc]
    rw [h3, h4, (ih h2).1, (ih h2).2]; exact ⟨rfl, rfl⟩
theorem is39 {l : List UInt8} (h : has39 l = true) : l = pre39 l ++ 39 :: pos39 l := by
  induction l with
  | nil => cases h
  | cons c l ih =>
    by_cases hc : c = 39
    · subst hc; simp [pre39, pos39]
    · have h1 : (c == 39) = false := by simpa using hc
      have h2 : has39 l = true := by simpa [has39, h1] using h
      have h3 : pre39 (c :: l) = c :: pre39 l := by simp [pre39, List.takeWhile_cons, hc]
      have h4 : pos39 (c :: l) = pos39 l := by simp [pos39, List.dropWhile_cons, hc]
      rw [h3, h4, List.cons_append, ← ih h2]
theorem pre_str {s : ByteArray} {q : Nat} (h : has39 (L s) = true) (hq : (pre39 (L s)).length = q) : s.extract 0 q = S (pre39 (L s)) := by
  apply L_inj
  rw [L_extract, L_S, List.drop_zero, Nat.sub_zero]
  generalize hp : pre39 (L s) = p at hq
  rw [is39 h, hp, ← hq, List.take_left]
theorem pos_str {s : ByteArray} {q : Nat} (h : has39 (L s) = true) (hq : (pre39 (L s)).length = q) : s.extract (q + 1) s.size = S (pos39 (L s)) := by
  apply L_inj
  have hl := len_L s
  rw [L_extract, L_S, List.take_of_length_le (by simp [len_L] <;> omega)]
  generalize hp : pre39 (L s) = p at hq
  have hd : (L s).drop (q + 1) = pos39 (L s) := by
    conv => lhs; rw [is39 h, hp]
    rw [← hq, ← List.drop_drop, List.drop_left]; rfl
  rw [hd]
theorem tup3 {a b : ByteArray} {c : Bool} {x y : List UInt8} {z : Bool} (h : a = S x ∧ b = S y ∧ c = z) : Ending.returned (.tuple #[.string a, .string b, .bool c]) = .returned (.tuple #[.string (S x), .string (S y), .bool z]) := by rw [h.1, h.2.1, h.2.2]

def numS (l : List UInt8) : List UInt8 := match numV l with | none => [] | some v => v.1
def numP (l : List UInt8) : Bool := match numV l with | none => false | some v => v.2
def numE2 (l : List UInt8) : Int := match numV l with | none => 21 | some _ => 0
theorem num_none {l : List UInt8} (h : numV l = none) : numS l = [] ∧ numP l = false ∧ numE2 l = 21 := by unfold numS numP numE2; rw [h]; exact ⟨rfl, rfl, rfl⟩
theorem num_some {l v : List UInt8} {b : Bool} (h : numV l = some (v, b)) : numS l = v ∧ numP l = b ∧ numE2 l = 0 := by unfold numS numP numE2; rw [h]; exact ⟨rfl, rfl, rfl⟩
theorem tup3e {a : ByteArray} {c : Bool} {n : Int} {x : List UInt8} {z : Bool} {m : Int} (h : x = L a ∧ z = c ∧ m = n) : Ending.returned (.tuple #[.string a, .bool c, .int .i64 n]) = .returned (.tuple #[.string (S x), .bool z, .int .i64 m]) := by rw [h.1, h.2.1, h.2.2, S_L]
theorem len_split (s : ByteArray) : (pre39 (L s)).length ≤ s.size ∧ (pos39 (L s)).length ≤ s.size := by
  cases h : has39 (L s) with
  | false => rw [(no39 h).1, (no39 h).2, len_L]; exact ⟨Nat.le_refl _, Nat.zero_le _⟩
  | true =>
    have := congrArg List.length (is39 h)
    rw [len_L, List.length_append, List.length_cons] at this
    omega

end Go.Proofs.Ytpnhefjiobnelaa

/- Layer 2 of the program: the reader's steps. -/
namespace Go.Proofs.Ytpnhefjiobnelaa
open Go.RowKit Lg
set_option linter.unusedVariables false
set_option linter.unusedSimpArgs false

def codeO (n : Nat) : Stp → Int
  | .skip _ => 0
  | .err c => c
  | .tk _ _ _ => if n = 16384 then 2 else 0
end Go.Proofs.Ytpnhefjiobnelaa

/- Layer 2 of the program: a tick. -/
namespace Go.Proofs.Ytpnhefjiobnelaa
open Go.RowKit Lg
set_option linter.unusedVariables false
set_option linter.unusedSimpArgs false

theorem evens (c : UInt8) (h : letB c = false) : kinds c = 6 ∨ kinds c = 4 ∨ kinds c = 24 ∨ kinds c = 8 ∨ kinds c = 32 ∨ kinds c = 64 ∨ kinds c = 128 ∨ kinds c = 0 := by
  rcases kcases c with k | k | k | k | k | k | k | k | k
  · rw [k.1] at h; cases h
  · left; exact k.2.2
  all_goals (first | (have := k.2.2.2.2.2.2.2.2.2.2; simp [this]; done) | (have := k.2.2.2; simp [this]; done) | (have := k.2; simp [this]; done))
theorem take_pre (y : ByteArray) (q : UInt8 → Bool) : L (y.extract 0 ((L y).takeWhile q).length) = (L y).takeWhile q := by
  rw [L_extract, List.drop_zero, Nat.sub_zero]
  have := List.takeWhile_append_dropWhile (p := q) (l := L y)
  conv => lhs; arg 2; rw [← this]
  rw [List.take_left]

end Go.Proofs.Ytpnhefjiobnelaa

/- Layer 2 of the program: one step of the reader. -/
namespace Go.Proofs.Ytpnhefjiobnelaa
open Go.RowKit Lg
set_option linter.unusedVariables false
set_option linter.unusedSimpArgs false

theorem sgn_not {c d : UInt8} (h : sgnB c = true) (hd : sgnB d = false) : c ≠ d := by rintro rfl; rw [h] at hd; cases hd
theorem take_sg (x : ByteArray) (n : Nat) : L (x.extract 0 n) = (L x).take n := by rw [L_extract, List.drop_zero, Nat.sub_zero]

theorem dfN3 (df : Bool) (x : List UInt8) : dfN df 3 x = df := by unfold dfN; simp
end Go.Proofs.Ytpnhefjiobnelaa

/- Layer 2 of the program: all tokens of a source. -/
namespace Go.Proofs.Ytpnhefjiobnelaa
open Go.RowKit Lg
set_option linter.unusedVariables false
set_option linter.unusedSimpArgs false

def atOf (b : Nat) (w : World) : Nat := (intOf ((w.cell? ⟨b, 1, none⟩).getD (.int .i64 0))).toNat
theorem stp_err {df : Bool} {c : UInt8} {r : List UInt8} {e : Int} (h : stp df c r = .err e) : (e == 0) = false ∧ (e != 0) = true := by
  have : e = 20 ∨ e = 4 ∨ e = 21 := by
    unfold stp tickP at h
    repeat' (split at h)
    all_goals first | (cases h; done) | (injection h with h; subst h; simp)
  rcases this with rfl | rfl | rfl <;> decide
theorem diag_heap (w : World) (a b : Value) (t : TypeId) : (w.alloc (.cells #[a, b] t)).heap[w.heap.size]? = some (.cells #[a, b] t (0, 0)) := by show (w.heap.push _)[w.heap.size]? = _; simp
theorem rd_heap (w : World) (a b c d : Value) (t : TypeId) : (w.alloc (.cells #[a, b, c, d] t)).heap[w.heap.size]? = some (.cells #[a, b, c, d] t (0, 0)) := by show (w.heap.push _)[w.heap.size]? = _; simp
def LexOut (s : ByteArray) (w : World) (e : Ending) (w' : World) : Prop :=
  match lexL (L s) with
  | .toks l => ∃ v, e = .returned (.tuple #[v, .slice none 0 0]) ∧ w'.ownsRow w.heap.size 39 3 v l.length (tcells l) ∧ Below w.heap.size w w'
  | .bad p c => ∃ g, e = .returned (.tuple #[.slice none 0 0, .slice (some ⟨g, 0, none⟩) 1 1]) ∧ w.heap.size ≤ g ∧ w'.heap[g]? = some (.cells #[.int .i64 p, .int .i64 c] 28 (0, 0)) ∧ Below w.heap.size w w'
theorem out_bad {s : ByteArray} {w w' : World} {e : Ending} {p : Nat} {c : Int} (h : lexL (L s) = .bad p c) (g : Nat) (he : e = .returned (.tuple #[.slice none 0 0, .slice (some ⟨g, 0, none⟩) 1 1])) (hg : w.heap.size ≤ g) (hh : w'.heap[g]? = some (.cells #[.int .i64 p, .int .i64 c] 28 (0, 0))) (hb : Below w.heap.size w w') : LexOut s w e w' := by
  unfold LexOut; rw [h]; exact ⟨g, he, hg, hh, hb⟩
theorem out_toks {s : ByteArray} {w w' : World} {e : Ending} {l : List Tok} (h : lexL (L s) = .toks l) (v : Value) (he : e = .returned (.tuple #[v, .slice none 0 0])) (ho : w'.ownsRow w.heap.size 39 3 v l.length (tcells l)) (hb : Below w.heap.size w w') : LexOut s w e w' := by
  unfold LexOut; rw [h]; exact ⟨v, he, ho, hb⟩

theorem belA' {B : Nat} {w a : World} (h : Below B w a) (o : Obj) (hB : B ≤ a.heap.size) : Below B w (a.alloc o) := h.alloc hB o
end Go.Proofs.Ytpnhefjiobnelaa

/- Layer 2: the program is awake. -/
namespace Go.Proofs.Ytpnhefjiobnelaa
open Go.RowKit Lg
set_option linter.unusedVariables false
set_option linter.unusedSimpArgs false

theorem own_some {w : World} {B e z n : Nat} {v : Value} {xs : List Value} (h : w.ownsRow B e z v n xs) (hn : 0 < n) : ∃ g cap, v = .slice (some ⟨g, 0, none⟩) n cap ∧ B ≤ g ∧ g < w.heap.size ∧ (n ≤ cap ∧ n ≤ 9223372036854775807) ∧ (∀ j u, xs[j]? = some u → w.cell? ⟨g, j, none⟩ = some u) := by
  obtain ⟨h1, h2⟩ := h
  rcases h2 with ⟨_, h2⟩ | ⟨g, cap, cur, hv, hg, hh, hc1, hc2, hc3, hc4⟩
  · omega
  · refine ⟨g, cap, hv, hg, heap_lt hh, ⟨hc1, by unfold maxLen at hc2; omega⟩, fun j u hu => ?_⟩
    rw [Lib.cell_of_heap hh]
    rw [← hc4] at hu
    rcases Nat.lt_or_ge j (n * z) with hj | hj
    · rw [List.getElem?_take_of_lt hj] at hu
      simpa using hu
    · rw [List.getElem?_eq_none (by simp; omega)] at hu; cases hu
theorem lexL_ne {l : List UInt8} {t : List Tok} (h : lexL l = .toks t) : 0 < t.length := by
  unfold lexL at h
  split at h
  · cases h
  · cases hg : lexG 0 l false 0 with
    | toks t0 => rw [hg] at h; injection h with h; subst h; simp
    | bad p e => rw [hg] at h; cases h
/-- where tokens lie -/
structure Lie (w : World) (B g cap : Nat) (l : List Tok) : Prop where
  ge : B ≤ g
  lt : g < w.heap.size
  cap : l.length ≤ cap ∧ l.length ≤ 9223372036854775807
  at_ : ∀ j u, (tcells l)[j]? = some u → w.cell? ⟨g, j, none⟩ = some u
theorem Lie.keep {w w' : World} {B g cap : Nat} {l : List Tok} (h : Lie w B g cap l) (hb : Below w.heap.size w w') : Lie w' B g cap l :=
  ⟨h.ge, Nat.lt_of_lt_of_le h.lt hb.size, h.cap, fun j u hu => by rw [hb.cell (p := ⟨g, j, none⟩) h.lt]; exact h.at_ j u hu⟩
def awT : List Tok := [⟨1, [97], 0⟩, ⟨3, [60, 61], 2⟩, ⟨2, [52, 39, 98, 49, 120], 5⟩, ⟨3, [59], 10⟩, ⟨6, [], 16⟩]
theorem aw_lex : lexL [97, 32, 60, 61, 32, 52, 39, 98, 49, 120, 59, 32, 47, 47, 32, 99] = .toks awT := by
  have s9 : lexG 16 [] false 4 = .toks [] := lexG_nil _ _ _
  have s8 : lexG 12 [47, 47, 32, 99] false 4 = .toks [] := (lexG_skip (m := 4) rfl).trans s9
  have s7 : lexG 11 [32, 47, 47, 32, 99] false 4 = .toks [] := (lexG_skip (m := 1) rfl).trans s8
  have s6 : lexG 10 [59, 32, 47, 47, 32, 99] false 3 = Res.cons ⟨3, [59], 10⟩ (.toks []) := (lexG_tk (m := 1) rfl (by decide)).trans (congrArg _ s7)
  have s5 : lexG 5 [52, 39, 98, 49, 120, 59, 32, 47, 47, 32, 99] false 2 = Res.cons ⟨2, [52, 39, 98, 49, 120], 5⟩ (Res.cons ⟨3, [59], 10⟩ (.toks [])) := (lexG_tk (m := 5) rfl (by decide)).trans (congrArg _ s6)
  have s4 : lexG 4 [32, 52, 39, 98, 49, 120, 59, 32, 47, 47, 32, 99] false 2 = Res.cons ⟨2, [52, 39, 98, 49, 120], 5⟩ (Res.cons ⟨3, [59], 10⟩ (.toks [])) := (lexG_skip (m := 1) rfl).trans s5
  have s3 : lexG 2 [60, 61, 32, 52, 39, 98, 49, 120, 59, 32, 47, 47, 32, 99] false 1 = Res.cons ⟨3, [60, 61], 2⟩ (Res.cons ⟨2, [52, 39, 98, 49, 120], 5⟩ (Res.cons ⟨3, [59], 10⟩ (.toks []))) := (lexG_tk (m := 2) rfl (by decide)).trans (congrArg _ s4)
  have s2 : lexG 1 [32, 60, 61, 32, 52, 39, 98, 49, 120, 59, 32, 47, 47, 32, 99] false 1 = Res.cons ⟨3, [60, 61], 2⟩ (Res.cons ⟨2, [52, 39, 98, 49, 120], 5⟩ (Res.cons ⟨3, [59], 10⟩ (.toks []))) := (lexG_skip (m := 1) rfl).trans s3
  have s1 : lexG 0 [97, 32, 60, 61, 32, 52, 39, 98, 49, 120, 59, 32, 47, 47, 32, 99] false 0 = Res.cons ⟨1, [97], 0⟩ (Res.cons ⟨3, [60, 61], 2⟩ (Res.cons ⟨2, [52, 39, 98, 49, 120], 5⟩ (Res.cons ⟨3, [59], 10⟩ (.toks [])))) := (lexG_tk (m := 1) rfl (by decide)).trans (congrArg _ s2)
  unfold lexL
  rw [if_neg (by decide), s1]
  rfl
theorem aw_num : numS [52, 39, 98, 120] = [120, 120, 120, 120] ∧ numP [52, 39, 98, 120] = false ∧ numE2 [52, 39, 98, 120] = 0 := num_some (by rfl)

end Go.Proofs.Ytpnhefjiobnelaa

/- Layer 2: tokens stand in the order of their places. -/
namespace Go.Proofs.Ytpnhefjiobnelaa
open Go.RowKit Lg
set_option linter.unusedVariables false
set_option linter.unusedSimpArgs false

theorem tcell_at {l : List Tok} {i : Nat} {t : Tok} (h : l[i]? = some t) : (tcells l)[i * 3]? = some (.int .i64 t.k) ∧ (tcells l)[i * 3 + 1]? = some (.string (S t.x)) ∧ (tcells l)[i * 3 + 2]? = some (.int .i64 t.p) := by
  induction l generalizing i with
  | nil => cases h
  | cons a l ih =>
    have e : tcells (a :: l) = tcell a ++ tcells l := rfl
    have el : (tcell a).length = 3 := rfl
    cases i with
    | zero =>
      simp at h; subst h
      exact ⟨rfl, rfl, rfl⟩
    | succ i =>
      have := ih (i := i) (by simpa using h)
      rw [e]
      refine ⟨?_, ?_, ?_⟩
      · rw [List.getElem?_append_right (by rw [el]; omega), el, show (i + 1) * 3 - 3 = i * 3 by omega]; exact this.1
      · rw [List.getElem?_append_right (by rw [el]; omega), el, show (i + 1) * 3 + 1 - 3 = i * 3 + 1 by omega]; exact this.2.1
      · rw [List.getElem?_append_right (by rw [el]; omega), el, show (i + 1) * 3 + 2 - 3 = i * 3 + 2 by omega]; exact this.2.2
theorem Lie.get {w : World} {B g cap : Nat} {l : List Tok} (h : Lie w B g cap l) {i : Nat} {t : Tok} (hi : l[i]? = some t) :
    w.cell? ⟨g, i * 3, none⟩ = some (.int .i64 t.k) ∧ w.cell? ⟨g, i * 3 + 1, none⟩ = some (.string (S t.x)) ∧ w.cell? ⟨g, i * 3 + 2, none⟩ = some (.int .i64 t.p) := by
  obtain ⟨a, b, c⟩ := tcell_at hi
  exact ⟨h.at_ _ _ a, h.at_ _ _ b, h.at_ _ _ c⟩

end Go.Proofs.Ytpnhefjiobnelaa
