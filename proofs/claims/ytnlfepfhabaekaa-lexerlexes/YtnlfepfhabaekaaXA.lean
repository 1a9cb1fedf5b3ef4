/- Layer 1, as far as layer 2 calls it: contracts of the program and of the reference. -/
import Derived.Test.YtnlfepfhabaekaaProg
import Derived.Test.YtnlfepfhabaekaaMath5
import Derived.Test.YtnlfepfhabaekaaShelf
import Derived.WalkKit
import Derived.WalkLawsBesides
import Derived.WalkSpells
import Derived.Deep.QuietTactic
import Derived.BigQuiet
import Derived.Deep.RegionWith
import Derived.Deep.OwnRows
import Derived.Laws.BytesArg
import Derived.Laws.Bits128
namespace Go.Proofs.Ytnlfepfhabaekaa
open Go.RowKit Lg
set_option linter.unusedVariables false

theorem ret_int {k : IntKind} {a b : Int} (h : a = b) : Ending.returned (.int k a) = .returned (.int k b) := by rw [h]
theorem ret_bool {a b : Bool} (h : a = b) : Ending.returned (.bool a) = .returned (.bool b) := by rw [h]
theorem ret_str {a b : ByteArray} (h : a = b) : Ending.returned (.string a) = .returned (.string b) := by rw [h]

def widB (n : Int) : Bool := decide (1 ≤ n ∧ n ≤ 256)
set_option maxHeartbeats 400000 in
theorem width_c (n : Int) (w : World) : Calls Try.prog 69 #[.int .i64 n] w fun e w' => e = .returned (.bool (widB n)) ∧ w' = w := by
  go_enter Try.func69, Try.ntmps69
  go_wp2
  all_goals (go_ret; exact ⟨ret_bool (by simp [widB, *] <;> omega), rfl⟩)

theorem vec_of_all {s : ByteArray} (h : (L s).all bitB = true) : vec (L s) = decide (1 ≤ s.size ∧ s.size ≤ 256) := by unfold vec; rw [h, len_L]; simp
theorem vec_no_all {s : ByteArray} (h : (L s).all bitB = false) : vec (L s) = false := by unfold vec; rw [h]; simp
theorem vec_no_len {s : ByteArray} (h : ¬ (1 ≤ s.size ∧ s.size ≤ 256)) : vec (L s) = false := by unfold vec; rw [len_L]; simp [h]

set_option maxHeartbeats 400000 in
theorem vector_c (s : ByteArray) (w : World) (hs : s.size ≤ maxLen) : Calls Try.prog 112 #[.string s] w fun e w' => e = .returned (.bool (vec (L s))) ∧ w' = w := by
  unfold maxLen at hs
  by_cases hw : 1 ≤ s.size ∧ s.size ≤ 256
  · have hwB : widB s.size = true := by unfold widB; simp; omega
    go_enter Try.func112, Try.ntmps112
    go_wp2_with (go_at_call 69; refine (width_c _ _).mono ?_; rintro e w' ⟨rfl, rfl⟩)
    go_loop [10] (fun i => ∃ k : Nat, k ≤ s.size ∧ i = .int .i64 k ∧ Hid (((L s).take k).all bitB = true)) (fun i => s.size - (intOf i).toNat)
    case atStart => exact ⟨0, Nat.zero_le _, rfl, by simp [Hid]⟩
    case round =>
      obtain ⟨k, hk, rfl, hh⟩ := hrel
      go_wp2
      all_goals first
        | (go_round
           case rel => exact ⟨k + 1, by omega, by go_num, all_snoc s k (by assumption) hh.out (by rw [bitB_iff]; simp_all <;> omega)⟩
           case measure => simp [intOf]; omega)
        | (go_ret; exact ⟨ret_bool (vec_no_all (all_false s k (by assumption) (by rw [bitB_iff]; simp_all))).symm, rfl⟩)
        | (go_ret; exact ⟨ret_bool (by have := hh.out; rw [take_all s k (by omega)] at this; rw [vec_of_all this]; simp [hw]), rfl⟩)
  · have hwB : widB s.size = false := by unfold widB; simp; omega
    go_enter Try.func112, Try.ntmps112
    go_wp2_with (go_at_call 69; refine (width_c _ _).mono ?_; rintro e w' ⟨rfl, rfl⟩)
    go_ret
    exact ⟨ret_bool (vec_no_len hw).symm, rfl⟩
theorem repeat_rep (c : UInt8) (n : Nat) : (⟨(Lib.repeatL [c] n).toArray⟩ : ByteArray) = S (rep n c) := by
  unfold S rep
  congr 2
  induction n with
  | zero => rfl
  | succ n ih => simp only [Lib.repeatL, List.replicate_succ]; rw [ih]; rfl

set_option maxHeartbeats 400000 in
theorem same_c (c : UInt8) (n : Nat) (w : World) (hn : n ≤ 140737488355328) : Calls Try.prog 114 #[.string ⟨#[c]⟩, .int .i64 n] w fun e w' => e = .returned (.string (S (rep n c))) ∧ Below w.heap.size w w' := by
  go_enter Try.func114, Try.ntmps114
  go_wp2_with (go_at_call 95; refine (Try.strings_Repeat _ _ _ (by omega) (by simp [ByteArray.size]; omega)).mono ?_; rintro e w' ⟨rfl, hb⟩)
  go_ret
  exact ⟨ret_str (repeat_rep c n), hb⟩

set_option maxHeartbeats 400000 in
theorem part_c (s : ByteArray) (hi lo : Nat) (w : World) (hs : s.size ≤ maxLen) (h1 : lo ≤ hi) (h2 : hi < s.size) : Calls Try.prog 113 #[.string s, .int .i64 hi, .int .i64 lo] w fun e w' => e = .returned (.string (s.extract (s.size - 1 - hi) (s.size - lo))) ∧ w' = w := by
  unfold maxLen at hs
  go_enter Try.func113, Try.ntmps113
  go_wp2
  go_ret
  exact ⟨ret_str (by congr 1 <;> omega), rfl⟩

theorem ext_fit {s : ByteArray} {n : Nat} (h1 : 1 ≤ n) (h2 : n ≤ s.size) : s.extract (s.size - 1 - (n - 1)) (s.size - 0) = S (fit (L s) n) := by
  apply L_inj
  rw [L_extract, L_S]
  unfold fit
  rw [if_pos (by rw [len_L]; exact h2), len_L, List.take_of_length_le (by simp [len_L] <;> omega)]
  congr 1; omega
theorem app_fit {s : ByteArray} {n : Nat} (h : s.size < n) : S (rep (n - s.size) 48) ++ s = S (fit (L s) n) := by
  apply L_inj
  rw [L_append, L_S, L_S]
  unfold fit rep
  rw [if_neg (by rw [len_L]; omega), len_L]

set_option maxHeartbeats 400000 in
theorem fit_c (s : ByteArray) (n : Nat) (w : World) (hs : s.size ≤ maxLen) (h1 : 1 ≤ n) (h2 : n ≤ 140737488355328) : Calls Try.prog 106 #[.string s, .int .i64 n] w fun e w' => e = .returned (.string (S (fit (L s) n))) ∧ Below w.heap.size w w' := by
  by_cases h : n ≤ s.size
  · have hs' := hs
    unfold maxLen at hs'
    obtain ⟨m, rfl⟩ : ∃ m, n = m + 1 := ⟨n - 1, by omega⟩
    go_enter Try.func106, Try.ntmps106
    go_wp2_with fail
    refine (part_c s m 0 _ hs (by omega) (by omega)).mono ?_
    rintro e w' ⟨rfl, rfl⟩
    go_wp2
    go_ret
    exact ⟨ret_str (ext_fit (n := m + 1) h1 h), Below.refl _ _⟩
  · have hs' := hs
    unfold maxLen at hs'
    go_enter Try.func106, Try.ntmps106
    go_wp2_with fail
    rw [show ((n : Int) - (s.size : Int)) = ((n - s.size : Nat) : Int) from by omega]
    refine (same_c 48 (n - s.size) _ (by omega)).mono ?_
    rintro e w' ⟨rfl, hb⟩
    have hz : (S (rep (n - s.size) 48)).size = n - s.size := by rw [size_S, len_rep]
    go_wp2
    go_ret
    exact ⟨ret_str (app_fit (by omega)), hb⟩

set_option maxHeartbeats 400000 in
theorem vectors_c (ss : List ByteArray) (b cap : Nat) (w : World) (hl : ss.length ≤ 3) (hc : ∀ i, i < ss.length → w.cell? ⟨b, i, none⟩ = some (.string (ss.getD i ByteArray.empty))) (hs : ∀ i, i < ss.length → (ss.getD i ByteArray.empty).size ≤ maxLen) :
    Calls Try.prog 105 #[.slice (some ⟨b, 0, none⟩) ss.length cap] w fun e w' => e = .returned (.bool (ss.all fun s => vec (L s))) ∧ w' = w := by
  have HC : Hid (∀ i, i < ss.length → w.cell? ⟨b, i, none⟩ = some (.string (ss.getD i ByteArray.empty))) := hc
  clear hc
  obtain ⟨n, hn⟩ : ∃ n, n = ss.length := ⟨_, rfl⟩
  rw [← hn]
  have HN : Hid (n = ss.length) := hn
  have hn3 : n ≤ 3 := by omega
  clear hn hl
  go_enter Try.func105, Try.ntmps105
  go_wp2
  go_loop [7] (fun i => ∃ k : Nat, k ≤ n ∧ i = .int .i64 k ∧ Hid ((ss.take k).all (fun s => vec (L s)) = true)) (fun i => n - (intOf i).toNat)
  case atStart => exact ⟨0, Nat.zero_le _, rfl, by simp [Hid]⟩
  case round =>
    obtain ⟨k, hk, rfl, hh⟩ := hrel
    by_cases hlt : k < n
    · have hkl : k < ss.length := by rw [← HN.out]; exact hlt
      obtain ⟨s, hsd⟩ : ∃ s, s = ss.getD k ByteArray.empty := ⟨_, rfl⟩
      have hcell : w.cell? ⟨b, k, none⟩ = some (.string s) := by rw [hsd]; exact HC.out k hkl
      have hsz : s.size ≤ maxLen := by rw [hsd]; exact hs k hkl
      have hsn : (ss.take (k + 1)).all (fun s => vec (L s)) = ((ss.take k).all (fun s => vec (L s)) && vec (L s)) := by
        rw [List.take_succ_eq_append_getElem hkl, List.all_append]; simp [hsd, List.getElem?_eq_getElem hkl]
      have hfl : vec (L s) = false → ss.all (fun s => vec (L s)) = false := by
        intro h; rw [List.all_eq_false]; exact ⟨s, by rw [hsd, List.getD_eq_getElem?_getD, List.getElem?_eq_getElem hkl]; exact List.getElem_mem _, by simp [h]⟩
      have HS : Hid (s = ss.getD k ByteArray.empty) := hsd
      have HSN : Hid _ := hsn
      have HF : Hid _ := hfl
      clear hsd hsn hfl hs
      by_cases hv : vec (L s) = true
      · go_wp2_with (go_at_call 112; refine (vector_c _ _ hsz).mono ?_; rintro e w' ⟨rfl, rfl⟩)
        go_round
        case rel => exact ⟨k + 1, by omega, by go_num, by have := HSN.out; rw [hh.out, hv] at this; simpa [Hid] using this⟩
        case measure => simp [intOf]; omega
      · have hv' : vec (L s) = false := by simpa using hv
        go_wp2_with (go_at_call 112; refine (vector_c _ _ hsz).mono ?_; rintro e w' ⟨rfl, rfl⟩)
        go_ret
        exact ⟨ret_bool (HF.out hv').symm, rfl⟩
    · go_wp2
      go_ret
      exact ⟨ret_bool (by have := hh.out; rw [List.take_of_length_le (by have := HN.out; omega)] at this; exact this.symm), rfl⟩

/-- so many bytes, each by its place -/
theorem str_tab (n : Nat) (f : Nat → UInt8) : strOfNums ((tab n f).map fun c => (c.toNat : Int)) = S (tab n f) := by
  apply L_inj
  rw [L_S, L, strOfNums_data, List.map_map]
  exact (List.map_congr_left (by intro c _; simp)).trans (List.map_id _)
theorem tab_getD (n : Nat) (f : Nat → UInt8) (i : Nat) (h : i < n) : ((tab n f).map fun c => (c.toNat : Int)).getD i 0 = ((f i).toNat : Int) := by
  simp [tab, h]
/-- the row of bytes that a loop fills from its beginning -/
def up (f : Nat → UInt8) (k : Nat) : Nat → Value := fun j => if j < k then .int .u8 (f j).toNat else .int .u8 0
def down (n : Nat) (f : Nat → UInt8) (k : Nat) : Nat → Value := fun j => if n - k ≤ j then .int .u8 (f j).toNat else .int .u8 0

theorem up_step (f : Nat → UInt8) (k : Nat) (v : Value) (hv : v = .int .u8 (f k).toNat) (j : Nat) : (if j = k then v else up f k j) = up f (k + 1) j := by
  unfold up
  by_cases h : j = k
  · subst h; simp [hv]
  · rw [if_neg h]; by_cases h2 : j < k
    · rw [if_pos h2, if_pos (by omega)]
    · rw [if_neg h2, if_neg (by omega)]
theorem down_step (n : Nat) (f : Nat → UInt8) (k i : Nat) (hk : k < n) (hi : i = n - 1 - k) (v : Value) (hv : v = .int .u8 (f i).toNat) (j : Nat) : (if j = i then v else down n f k j) = down n f (k + 1) j := by
  unfold down
  by_cases h : j = i
  · subst h; rw [if_pos rfl, if_pos (by omega), hv]
  · rw [if_neg h]; by_cases h2 : n - k ≤ j
    · rw [if_pos h2, if_pos (by omega)]
    · rw [if_neg h2, if_neg (by omega)]
theorem made_up (w : World) (f : Nat → UInt8) (n b : Nat) (hb : w.heap.size = b) : (w.alloc (.cells (madeCells #[.int .u8 0] n) 5)).rowIs b 5 n (up f 0) := by
  subst hb; exact (World.rowIs_made _ _ _ _).congr (fun j _ => by simp [up])
theorem made_down (w : World) (f : Nat → UInt8) (n b : Nat) (hb : w.heap.size = b) : (w.alloc (.cells (madeCells #[.int .u8 0] n) 5)).rowIs b 5 n (down n f 0) := by
  subst hb; exact (World.rowIs_made _ _ _ _).congr (fun j hj => by unfold down; rw [if_neg (by omega)])
theorem make_c (n : Nat) (hn : n ≤ 140737488355328) (w : World) : (Instr.makeSlice 39 (.int .i64 n) (.int .i64 n)).run Try.prog w = .ok (.slice (some ⟨w.heap.size, 0, none⟩) n n) (w.alloc (.cells (madeCells #[.int .u8 0] n) 5)) :=
  run_make_row' (P := Try.prog) 39 5 (.int .u8 0) 1 Try.underlying39 (by kernel_rfl) rfl .i64 .i64 n (by omega) (by omega) w
theorem conv_c (n b : Nat) (f : Nat → UInt8) (g : Nat → Value) (w : World) (h : w.rowIs b 5 n g) (hg : ∀ j, j < n → g j = .int .u8 (f j).toNat) : (convert 39 9 (.slice (some ⟨b, 0, none⟩) n n)).run Try.prog w = .ok (.string (S (tab n f))) w := by
  rw [← str_tab]
  refine run_convert_bytes_arg (P := Try.prog) w 39 5 Try.underlying39 Try.underlying5 b 0 n n _ (by simp [tab]) (fun i hi => ?_) 9 Try.underlying9
  rw [Nat.zero_add, h.cell hi, hg i hi, tab_getD n f i hi]

theorem i64_and1 (n : Int) : bits .and .i64 n 1 = n % 2 := by
  have h1 : (BitVec.ofInt 64 1).toNat = 2 ^ 1 - 1 := by decide
  have key : (BitVec.ofInt 64 n &&& BitVec.ofInt 64 1).toNat = (n % ((2 ^ 64 : Nat) : Int)).toNat % 2 ^ 1 := by
    rw [BitVec.toNat_and, BitVec.toNat_ofInt, h1, Nat.and_two_pow_sub_one_eq_mod]
  show IntKind.i64.wrap ((BitVec.ofInt 64 n &&& BitVec.ofInt 64 1).toNat : Nat) = n % 2
  rw [key, IntKind.wrap_i64]
  omega
theorem bel {w a b : World} (h : Below w.heap.size w a) (k : Below a.heap.size a b) : Below w.heap.size w b := h.trans (k.mono h.size)
theorem belA {w a : World} (h : Below w.heap.size w a) (o : Obj) : Below w.heap.size w (a.alloc o) := h.alloc h.size o
theorem belD {w : World} : Below w.heap.size w w.drew := (Below.refl _ _).drew

set_option maxRecDepth 100000 in
/-- a string of one byte, made out of a slice of it -/
theorem one_c (c : UInt8) (w : World) : (convert 39 9 (.slice (some ⟨w.heap.size, 0, none⟩) 1 1)).run Try.prog (w.alloc (.cells #[.int .u8 c.toNat] 5)) = .ok (.string (S [c])) (w.alloc (.cells #[.int .u8 c.toNat] 5)) := by
  have h := run_convert_bytes_arg (P := Try.prog) (w.alloc (.cells #[.int .u8 c.toNat] 5)) 39 5 Try.underlying39 Try.underlying5 w.heap.size 0 1 1 [(c.toNat : Int)] rfl (fun i hi => by
    obtain rfl : i = 0 := by omega
    rw [World.cell?_alloc_at _ _ _ _ rfl]; rfl) 9 Try.underlying9
  rw [h]; congr 2; apply L_inj; rw [L_S, L, strOfNums_data]; simp

theorem vectors1_c (a : ByteArray) (w : World) (ha : a.size ≤ maxLen) : Calls Try.prog 105 #[.slice (some ⟨w.heap.size, 0, none⟩) 1 1] (w.alloc (.cells #[.string a] 9)) fun e w' => e = .returned (.bool (vec (L a))) ∧ w' = w.alloc (.cells #[.string a] 9) := by
  refine (vectors_c [a] w.heap.size 1 _ (by simp) (fun i hi => ?_) (fun i hi => ?_)).mono ?_
  · rw [World.cell?_alloc_at _ _ _ _ rfl]; obtain rfl : i = 0 := by simp at hi; omega
    rfl
  · obtain rfl : i = 0 := by simp at hi; omega
    exact ha
  · rintro e w' ⟨rfl, rfl⟩; exact ⟨ret_bool (by simp), rfl⟩
/-- two results -/
theorem ret_si {a b : ByteArray} {n : Int} (h : a = b) : Ending.returned (.tuple #[.string a, .int .i64 n]) = .returned (.tuple #[.string b, .int .i64 n]) := by rw [h]
theorem tup2 {s t : List UInt8} {a b : Int} (h : t = s ∧ b = a) : Ending.returned (.tuple #[.string (S s), .int .i64 a]) = .returned (.tuple #[.string (S t), .int .i64 b]) := by rw [h.1, h.2]

theorem tupS {s : ByteArray} {t : List UInt8} {a b : Int} (h : t = L s ∧ b = a) : Ending.returned (.tuple #[.string s, .int .i64 a]) = .returned (.tuple #[.string (S t), .int .i64 b]) := by rw [h.1, h.2, S_L]

def fitA (a : List UInt8) (n : Int) : List UInt8 := if n < 1 ∨ 256 < n then [] else if vec a then fit a n.toNat else []
def fitE (a : List UInt8) (n : Int) : Int := if n < 1 ∨ 256 < n then 1 else if vec a then 0 else 10
set_option maxHeartbeats 400000 in
theorem Fit_c (s : ByteArray) (n : Int) (w : World) (hs1 : s.size ≤ maxLen) : Calls Try.prog 97 #[.string s, .int .i64 n] w fun e w' => e = .returned (.tuple #[.string (S (fitA (L s) n)), .int .i64 (fitE (L s) n)]) ∧ Below w.heap.size w w' := by
  by_cases h1 : n < 1 ∨ 256 < n
  · have hb : widB n = false := by unfold widB; simp; omega
    have hk : fitA (L s) n = [] ∧ fitE (L s) n = 1 := by unfold fitA fitE; rw [if_pos h1, if_pos h1]; exact ⟨rfl, rfl⟩
    have HK : Hid _ := hk
    clear h1 hk
    go_enter Try.func97, Try.ntmps97
    go_wp2_with (go_at_call 69; refine (width_c _ _).mono ?_; rintro e w1 ⟨rfl, rfl⟩)
    go_ret2
    exact ⟨tup2 HK.out, Below.refl _ _⟩
  · have hb : widB n = true := by unfold widB; simp; omega
    obtain ⟨m, rfl⟩ := Int.eq_ofNat_of_zero_le (show 0 ≤ n by omega)
    by_cases h3 : vec (L s) = true
    · have hk : fitA (L s) m = fit (L s) m ∧ fitE (L s) m = 0 := by unfold fitA fitE; rw [if_neg h1, if_neg h1, if_pos h3, if_pos h3]; exact ⟨rfl, rfl⟩
      have HK : Hid _ := hk
      have hm1 : 1 ≤ m := by omega
      have hm2 : m ≤ 256 := by omega
      clear h1 hk
      go_enter Try.func97, Try.ntmps97
      go_wp2_with (first | (go_at_call 69; refine (width_c _ _).mono ?_; rintro e w1 ⟨rfl, rfl⟩) | (go_at_call 105; refine (vectors1_c s _ hs1).mono ?_; rintro e w1 ⟨rfl, rfl⟩) | (go_at_call 106; refine (fit_c s m _ hs1 hm1 (by omega)).mono ?_; rintro e w2 ⟨rfl, hb2⟩))
      go_ret2
      exact ⟨tup2 HK.out, bel (belA (Below.refl _ _) _) (by assumption)⟩
    · have h3' : vec (L s) = false := by simpa using h3
      have hk : fitA (L s) m = [] ∧ fitE (L s) m = 10 := by unfold fitA fitE; rw [if_neg h1, if_neg h1, if_neg h3, if_neg h3]; exact ⟨rfl, rfl⟩
      have HK : Hid _ := hk
      clear h1 hk
      go_enter Try.func97, Try.ntmps97
      go_wp2_with (first | (go_at_call 69; refine (width_c _ _).mono ?_; rintro e w1 ⟨rfl, rfl⟩) | (go_at_call 105; refine (vectors1_c s _ hs1).mono ?_; rintro e w1 ⟨rfl, rfl⟩))
      go_ret2
      exact ⟨tup2 HK.out, belA (Below.refl _ _) _⟩

theorem ofBit_nat (n w k i m : Nat) (hk : k < w) (hi : i = w - 1 - k) (hm : m = n / 2 ^ k) : ((ofBit n w i).toNat : Int) = 48 + ((m : Nat) : Int) % 2 := by
  have e : w - 1 - i = k := by omega
  unfold ofBit
  rw [e, ← hm]
  by_cases h : m % 2 = 1
  · rw [if_pos h]; have : ((49 : UInt8).toNat : Int) = 49 := rfl; omega
  · rw [if_neg h]; have : ((48 : UInt8).toNat : Int) = 48 := rfl; omega
theorem half_step (n k m : Nat) (hm : m = n / 2 ^ k) : m / 2 = n / 2 ^ (k + 1) := by
  rw [hm, Nat.pow_succ, Nat.div_div_eq_div_mul]

set_option maxHeartbeats 1000000 in
theorem Of_c (n wd : Int) (w : World) (hn1 : n ≤ 9223372036854775807) : Calls Try.prog 51 #[.int .i64 n, .int .i64 wd] w fun e w' => e = .returned (.tuple #[.string (S (ofA n wd)), .int .i64 (ofE n wd)]) ∧ Below w.heap.size w w' := by
  by_cases hb : n < 0 ∨ wd < 1 ∨ 256 < wd
  · have HK : Hid (ofA n wd = [] ∧ ofE n wd = 1) := by unfold ofA ofE; rw [if_pos hb, if_pos hb]; exact ⟨rfl, rfl⟩
    by_cases c1 : n < 0
    · go_enter Try.func51, Try.ntmps51
      go_wp2
      go_ret2
      exact ⟨tup2 HK.out, Below.refl _ _⟩
    · have hw : widB wd = false := by unfold widB; simp; omega
      clear hb
      go_enter Try.func51, Try.ntmps51
      go_wp2_with (go_at_call 69; refine (width_c _ _).mono ?_; rintro e w1 ⟨rfl, rfl⟩)
      go_ret2
      exact ⟨tup2 HK.out, Below.refl _ _⟩
  · obtain ⟨N, rfl⟩ := Int.eq_ofNat_of_zero_le (show 0 ≤ n by omega)
    obtain ⟨W, rfl⟩ := Int.eq_ofNat_of_zero_le (show 0 ≤ wd by omega)
    have HK : Hid (ofA N W = ofL N W ∧ ofE N W = 0) := by unfold ofA ofE; rw [if_neg hb, if_neg hb]; exact ⟨rfl, rfl⟩
    have hW1 : 1 ≤ W := by omega
    have hW2 : W ≤ 256 := by omega
    have hw : widB W = true := by unfold widB; simp; omega
    have hmk := make_c W (by omega)
    clear hb
    go_enter Try.func51, Try.ntmps51
    go_wp2_with (go_at_call 69; refine (width_c _ _).mono ?_; rintro e w1 ⟨rfl, hw1⟩; have hw2 := hw1.symm; subst hw2)
    go_loopw [0, 18] (fun nv i wr => ∃ k m : Nat, k ≤ W ∧ i = .int .i64 k ∧ nv = .int .i64 m ∧ m ≤ 9223372036854775807 ∧ Hid (m = N / 2 ^ k) ∧ Hid (Below w.heap.size w wr) ∧ Hid (wr.rowIs w.heap.size 5 W (down W (ofBit N W) k))) (fun _ i _ => W - (intOf i).toNat)
    case atStart => exact ⟨0, N, Nat.zero_le _, rfl, rfl, by omega, by simp [Hid], (Below.refl _ _).alloc (by simp) _, made_down _ _ _ _ (by simp)⟩
    case round =>
      obtain ⟨k, m, hk, rfl, rfl, hm, HM, hb, hr⟩ := hrel
      by_cases hlt : k < W
      · obtain ⟨i, hi⟩ : ∃ i, W = i + 1 + k := ⟨W - 1 - k, by omega⟩
        have hi1 : i < W := by omega
        have hi2 : (i : Int) < (W : Int) := by omega
        have e1 : (W : Int) - 1 - (k : Int) = (i : Int) := by omega
        have hc1 : wr.cell? ⟨w.heap.size, i, none⟩ = some (.int .u8 0) := by rw [hr.out.cell hi1]; unfold down; rw [if_neg (by omega)]
        have hf1 : wr.frozen? ⟨w.heap.size, i, none⟩ = false := hr.out.frozen _
        have HI : Hid (W = i + 1 + k) := hi
        clear hi
        go_wp2
        go_roundw
        case rel =>
          refine ⟨k + 1, m / 2, by omega, by go_num, by go_num, by omega, half_step N k m HM.out, hb.out.setCell (by simp) _, ?_⟩
          refine World.rowIs.congr (World.rowIs.set hr.out i _) (fun j _ => down_step _ _ k i hlt (by have := HI.out; omega) _ ?_ j)
          rw [ofBit_nat N W k i m hlt (by have := HI.out; omega) HM.out, i64_and1]; congr 1; omega
        case measure => simp [intOf]; omega
      · have hcv := conv_c W w.heap.size (ofBit N W) _ wr hr.out (fun j hj => by unfold down; rw [if_pos (by omega)])
        go_wp2
        go_ret2
        exact ⟨tup2 HK.out, hb.out⟩

set_option maxHeartbeats 1000000 in
theorem rOf_c (N W : Nat) (w : World) (hN : N ≤ 9223372036854775807) (hW1 : 1 ≤ W) (hW2 : W ≤ 256) : Calls Try.prog 64 #[.int .i64 N, .int .i64 W] w fun e w' => e = .returned (.string (S (ofL N W))) ∧ Below w.heap.size w w' := by
  have hmk := make_c W (by omega)
  go_enter Try.func64, Try.ntmps64
  go_wp2
  go_loopw [0, 6] (fun nv i wr => ∃ k m : Nat, k ≤ W ∧ i = .int .i64 ((W : Int) - 1 - k) ∧ nv = .int .i64 m ∧ m ≤ 9223372036854775807 ∧ Hid (m = N / 2 ^ k) ∧ Hid (Below w.heap.size w wr) ∧ Hid (wr.rowIs w.heap.size 5 W (down W (ofBit N W) k))) (fun _ i _ => (intOf i + 1).toNat)
  case atStart => exact ⟨0, N, Nat.zero_le _, by go_num, rfl, by omega, by simp [Hid], (Below.refl _ _).alloc (by simp) _, made_down _ _ _ _ (by simp)⟩
  case round =>
    obtain ⟨k, m, hk, rfl, rfl, hm, HM, hb, hr⟩ := hrel
    by_cases hlt : k < W
    · obtain ⟨i, hi⟩ : ∃ i, W = i + 1 + k := ⟨W - 1 - k, by omega⟩
      have hi1 : i < W := by omega
      have hi2 : (i : Int) < (W : Int) := by omega
      have e1 : (W : Int) - 1 - (k : Int) = (i : Int) := by omega
      have hc1 : wr.cell? ⟨w.heap.size, i, none⟩ = some (.int .u8 0) := by rw [hr.out.cell hi1]; unfold down; rw [if_neg (by omega)]
      have hf1 : wr.frozen? ⟨w.heap.size, i, none⟩ = false := hr.out.frozen _
      have HI : Hid (W = i + 1 + k) := hi
      clear hi
      rw [e1]
      go_wp2
      go_roundw
      case rel =>
        refine ⟨k + 1, m / 2, by omega, by go_num, by go_num, by omega, half_step N k m HM.out, hb.out.setCell (by simp) _, ?_⟩
        refine World.rowIs.congr (World.rowIs.set hr.out i _) (fun j _ => down_step _ _ k i hlt (by have := HI.out; omega) _ ?_ j)
        rw [ofBit_nat N W k i m hlt (by have := HI.out; omega) HM.out]
      case measure => simp [intOf] <;> omega
    · have hcv := conv_c W w.heap.size (ofBit N W) _ wr hr.out (fun j hj => by unfold down; rw [if_pos (by omega)])
      have e2 : (W : Int) - 1 - (k : Int) = -1 := by omega
      rw [e2]
      go_wp2
      go_ret
      exact ⟨ret_str rfl, hb.out⟩
theorem ret_u8 {a : Int} {b : UInt8} (h : (b.toNat : Int) = a) : Ending.returned (.int .u8 a) = .returned (.int .u8 (b.toNat : Int)) := by rw [h]
set_option maxHeartbeats 1000000 in
theorem rAll_c (c : UInt8) (n : Nat) (w : World) (hn : n ≤ 1000000) : Calls Try.prog 66 #[.int .u8 c.toNat, .int .i64 n] w fun e w' => e = .returned (.string (S (rep n c))) ∧ Below w.heap.size w w' := by
  have hmk := make_c n (by omega)
  go_enter Try.func66, Try.ntmps66
  go_wp2
  go_loopw [6] (fun i wr => ∃ k : Nat, k ≤ n ∧ i = .int .i64 k ∧ Hid (Below w.heap.size w wr) ∧ Hid (wr.rowIs w.heap.size 5 n (up (fun _ => c) k))) (fun i _ => n - (intOf i).toNat)
  case atStart => exact ⟨0, Nat.zero_le _, rfl, (Below.refl _ _).alloc (by simp) _, made_up _ _ _ _ (by simp)⟩
  case round =>
    obtain ⟨k, hk, rfl, hb, hr⟩ := hrel
    by_cases hlt : k < n
    · have hc1 : wr.cell? ⟨w.heap.size, k, none⟩ = some (.int .u8 0) := by rw [hr.out.cell hlt]; simp [up]
      have hf1 : wr.frozen? ⟨w.heap.size, k, none⟩ = false := hr.out.frozen _
      have hkI : (k : Int) < (n : Int) := by omega
      go_wp2
      go_roundw
      case rel => exact ⟨k + 1, by omega, by go_num, hb.out.setCell (by simp) _, (hr.out.set k _).congr (fun j _ => up_step _ k _ rfl j)⟩
      case measure => simp [intOf]; omega
    · have hcv := conv_c n w.heap.size (fun _ => c) _ wr hr.out (fun j hj => by unfold up; rw [if_pos (by omega)])
      rw [rep_tab] at hcv
      go_wp2
      go_ret
      exact ⟨rfl, hb.out⟩

theorem fit_str (s : ByteArray) (n : Nat) (h : n ≤ s.size) : s.extract (s.size - n) s.size = S (fit (L s) n) := by
  apply L_inj; rw [L_extract, L_S]; unfold fit; rw [if_pos (by rw [len_L]; exact h), len_L, List.take_of_length_le (by rw [List.length_drop, len_L]; omega)]
set_option maxHeartbeats 400000 in
theorem rFit_c (s : ByteArray) (n : Nat) (w : World) (hs : s.size ≤ maxLen) (h2 : n ≤ 100000) : Calls Try.prog 67 #[.string s, .int .i64 n] w fun e w' => e = .returned (.string (S (fit (L s) n))) ∧ Below w.heap.size w w' := by
  by_cases h : n ≤ s.size
  · unfold maxLen at hs
    obtain ⟨m, hm⟩ : ∃ m, s.size = m + n := ⟨s.size - n, by omega⟩
    have e1 : (s.size : Int) - (n : Int) = (m : Int) := by omega
    have hm1 : m ≤ s.size := by omega
    have HF : Hid (s.extract m s.size = S (fit (L s) n)) := by have := fit_str s n h; rw [show s.size - n = m by omega] at this; exact this
    clear hm
    go_enter Try.func67, Try.ntmps67
    go_wp2
    go_ret
    exact ⟨ret_str HF.out, Below.refl _ _⟩
  · have hz : (S (rep (n - s.size) 48)).size = n - s.size := by rw [size_S, len_rep]
    unfold maxLen at hs
    go_enter Try.func67, Try.ntmps67
    go_wp2_with fail
    rw [show ((n : Int) - (s.size : Int)) = ((n - s.size : Nat) : Int) from by omega]
    refine (rAll_c 48 (n - s.size) _ (by omega)).mono ?_
    rintro e w' ⟨rfl, hb⟩
    go_wp2
    go_ret
    exact ⟨ret_str (app_fit (by omega)), hb⟩

end Go.Proofs.Ytnlfepfhabaekaa
