/- Texts WA WB WC WD WE WF WG WH WI WJ WK WL WM, joined: what each part says stands ahead of it. -/
import Derived.Test.YtodpljgajjcdoaaGreatDoorProg
import Derived.Test.YtodpljgajjcdoaaGreatDoorGM
import Derived.WalkKit
import Derived.WalkLawsBesides
import Derived.WalkSpells
import Derived.Deep.QuietTactic
import Derived.BigQuiet
import Derived.Test.YtodpljgajjcdoaaGreatDoorGX
import Derived.Deep.RegionWith
import Derived.Deep.OwnRows
import Derived.Laws.BytesArg
import Derived.Laws.Bits128
/- The leaves of layer 1: place, width, known, vector. -/
namespace Go.Proofs.YtodpljgajjcdoaaGreatDoor
set_option maxRecDepth 100000
open Go.RowKit Lg
set_option linter.unusedVariables false

theorem ret_int {k : IntKind} {a b : Int} (h : a = b) : Ending.returned (.int k a) = .returned (.int k b) := by rw [h]
theorem ret_bool {a b : Bool} (h : a = b) : Ending.returned (.bool a) = .returned (.bool b) := by rw [h]
theorem ret_str {a b : ByteArray} (h : a = b) : Ending.returned (.string a) = .returned (.string b) := by rw [h]

def widB (n : Int) : Bool := decide (1 ≤ n ∧ n ≤ 256)
set_option maxHeartbeats 400000 in
theorem width_c (n : Int) (w : World) : Calls Tryz.prog 100 #[.int .i64 n] w fun e w' => e = .returned (.bool (widB n)) ∧ w' = w := by
  go_enter Tryz.func100, Tryz.ntmps100
  go_wp2
  all_goals (go_ret; exact ⟨ret_bool (by simp [widB, *] <;> omega), rfl⟩)

theorem vec_of_all {s : ByteArray} (h : (L s).all bitB = true) : vec (L s) = decide (1 ≤ s.size ∧ s.size ≤ 256) := by unfold vec; rw [h, len_L]; simp
theorem vec_no_all {s : ByteArray} (h : (L s).all bitB = false) : vec (L s) = false := by unfold vec; rw [h]; simp
theorem vec_no_len {s : ByteArray} (h : ¬ (1 ≤ s.size ∧ s.size ≤ 256)) : vec (L s) = false := by unfold vec; rw [len_L]; simp [h]

set_option maxHeartbeats 400000 in
theorem may_c (s : ByteArray) (w : World) (hs : s.size ≤ maxLen) : Calls Tryz.prog 43 #[.string s] w fun e w' => e = .returned (.bool (vec (L s))) ∧ w' = w := by
  unfold maxLen at hs
  go_enter Tryz.func43, Tryz.ntmps43
  go_wp2
  go_loop [3] (fun i => ∃ k : Nat, k ≤ s.size ∧ i = .int .i64 k ∧ Hid (((L s).take k).all bitB = true)) (fun i => s.size - (intOf i).toNat)
  case atStart => exact ⟨0, Nat.zero_le _, rfl, by simp [Hid]⟩
  case round =>
    obtain ⟨k, hk, rfl, hh⟩ := hrel
    go_wp2
    all_goals first
      | (go_round
         case rel => exact ⟨k + 1, by omega, by go_num, all_snoc s k (by assumption) hh.out (by rw [bitB_iff]; simp_all <;> omega)⟩
         case measure => simp [intOf]; omega)
      | (go_ret; exact ⟨ret_bool (vec_no_all (all_false s k (by assumption) (by rw [bitB_iff]; simp_all))).symm, rfl⟩)
      | (go_ret; exact ⟨ret_bool (by have := hh.out; rw [take_all s k (by omega)] at this; rw [vec_of_all this, Bool.eq_iff_iff]; simp; omega), rfl⟩)

set_option maxHeartbeats 400000 in
theorem vector_c (s : ByteArray) (w : World) (hs : s.size ≤ maxLen) : Calls Tryz.prog 83 #[.string s] w fun e w' => e = .returned (.bool (vec (L s))) ∧ w' = w := by
  unfold maxLen at hs
  by_cases hw : 1 ≤ s.size ∧ s.size ≤ 256
  · have hwB : widB s.size = true := by unfold widB; simp; omega
    go_enter Tryz.func83, Tryz.ntmps83
    go_wp2_with (go_at_call 100; refine (width_c _ _).mono ?_; rintro e w' ⟨rfl, rfl⟩)
    go_loop [10] (fun i => ∃ k : Nat, k ≤ s.size ∧ i = .int .i64 k ∧ Hid (((L s).take k).all bitB = true)) (fun i => s.size - (intOf i).toNat)
    case atStart => exact ⟨0, Nat.zero_le _, rfl, by simp [Hid]⟩
    case round =>
      obtain ⟨k, hk, rfl, hh⟩ := hrel
      go_wp2
      all_goals first
        | (go_round
           case rel => exact ⟨k + 1, by omega, by go_num, all_snoc s k (by assumption) hh.out (by rw [bitB_iff]; simp_all <;> omega)⟩
           case measure => simp [intOf]; omega)
        | (go_ret; exact ⟨ret_bool (vec_no_all (all_false s k (by assumption) (by rw [bitB_iff]; simp_all))).symm, rfl⟩)
        | (go_ret; exact ⟨ret_bool (by have := hh.out; rw [take_all s k (by omega)] at this; rw [vec_of_all this]; simp [hw]), rfl⟩)
  · have hwB : widB s.size = false := by unfold widB; simp; omega
    go_enter Tryz.func83, Tryz.ntmps83
    go_wp2_with (go_at_call 100; refine (width_c _ _).mono ?_; rintro e w' ⟨rfl, rfl⟩)
    go_ret
    exact ⟨ret_bool (vec_no_len hw).symm, rfl⟩
end Go.Proofs.YtodpljgajjcdoaaGreatDoor

/- Layer 1: same, part, fit, vectors, the tables. -/
namespace Go.Proofs.YtodpljgajjcdoaaGreatDoor
set_option maxRecDepth 100000
open Go.RowKit Lg
set_option linter.unusedVariables false

theorem repeat_rep (c : UInt8) (n : Nat) : (⟨(Lib.repeatL [c] n).toArray⟩ : ByteArray) = S (rep n c) := by
  unfold S rep
  congr 2
  induction n with
  | zero => rfl
  | succ n ih => simp only [Lib.repeatL, List.replicate_succ]; rw [ih]; rfl

theorem ext_fit {s : ByteArray} {n : Nat} (h1 : 1 ≤ n) (h2 : n ≤ s.size) : s.extract (s.size - 1 - (n - 1)) (s.size - 0) = S (fit (L s) n) := by
  apply L_inj
  rw [L_extract, L_S]
  unfold fit
  rw [if_pos (by rw [len_L]; exact h2), len_L, List.take_of_length_le (by simp [len_L] <;> omega)]
  congr 1; omega
theorem app_fit {s : ByteArray} {n : Nat} (h : s.size < n) : S (rep (n - s.size) 48) ++ s = S (fit (L s) n) := by
  apply L_inj
  rw [L_append, L_S, L_S]
  unfold fit rep
  rw [if_neg (by rw [len_L]; omega), len_L]

set_option maxHeartbeats 400000 in
theorem vectors_c (ss : List ByteArray) (b cap : Nat) (w : World) (hl : ss.length ≤ 3) (hc : ∀ i, i < ss.length → w.cell? ⟨b, i, none⟩ = some (.string (ss.getD i ByteArray.empty))) (hs : ∀ i, i < ss.length → (ss.getD i ByteArray.empty).size ≤ maxLen) :
    Calls Tryz.prog 68 #[.slice (some ⟨b, 0, none⟩) ss.length cap] w fun e w' => e = .returned (.bool (ss.all fun s => vec (L s))) ∧ w' = w := by
  have HC : Hid (∀ i, i < ss.length → w.cell? ⟨b, i, none⟩ = some (.string (ss.getD i ByteArray.empty))) := hc
  clear hc
  obtain ⟨n, hn⟩ : ∃ n, n = ss.length := ⟨_, rfl⟩
  rw [← hn]
  have HN : Hid (n = ss.length) := hn
  have hn3 : n ≤ 3 := by omega
  clear hn hl
  go_enter Tryz.func68, Tryz.ntmps68
  go_wp2
  go_loop [7] (fun i => ∃ k : Nat, k ≤ n ∧ i = .int .i64 k ∧ Hid ((ss.take k).all (fun s => vec (L s)) = true)) (fun i => n - (intOf i).toNat)
  case atStart => exact ⟨0, Nat.zero_le _, rfl, by simp [Hid]⟩
  case round =>
    obtain ⟨k, hk, rfl, hh⟩ := hrel
    by_cases hlt : k < n
    · have hkl : k < ss.length := by rw [← HN.out]; exact hlt
      obtain ⟨s, hsd⟩ : ∃ s, s = ss.getD k ByteArray.empty := ⟨_, rfl⟩
      have hcell : w.cell? ⟨b, k, none⟩ = some (.string s) := by rw [hsd]; exact HC.out k hkl
      have hsz : s.size ≤ maxLen := by rw [hsd]; exact hs k hkl
      have hsn : (ss.take (k + 1)).all (fun s => vec (L s)) = ((ss.take k).all (fun s => vec (L s)) && vec (L s)) := by
        rw [List.take_succ_eq_append_getElem hkl, List.all_append]; simp [hsd, List.getElem?_eq_getElem hkl]
      have hfl : vec (L s) = false → ss.all (fun s => vec (L s)) = false := by
        intro h; rw [List.all_eq_false]; exact ⟨s, by rw [hsd, List.getD_eq_getElem?_getD, List.getElem?_eq_getElem hkl]; exact List.getElem_mem _, by simp [h]⟩
      have HS : Hid (s = ss.getD k ByteArray.empty) := hsd
      have HSN : Hid _ := hsn
      have HF : Hid _ := hfl
      clear hsd hsn hfl hs
      by_cases hv : vec (L s) = true
      · go_wp2_with (go_at_call 83; refine (vector_c _ _ hsz).mono ?_; rintro e w' ⟨rfl, rfl⟩)
        go_round
        case rel => exact ⟨k + 1, by omega, by go_num, by have := HSN.out; rw [hh.out, hv] at this; simpa [Hid] using this⟩
        case measure => simp [intOf]; omega
      · have hv' : vec (L s) = false := by simpa using hv
        go_wp2_with (go_at_call 83; refine (vector_c _ _ hsz).mono ?_; rintro e w' ⟨rfl, rfl⟩)
        go_ret
        exact ⟨ret_bool (HF.out hv').symm, rfl⟩
    · go_wp2
      go_ret
      exact ⟨ret_bool (by have := hh.out; rw [List.take_of_length_le (by have := HN.out; omega)] at this; exact this.symm), rfl⟩

/-- the four rows of a table -/
def row4 (a b c d : List UInt8) : Value := .agg #[.string (S a), .string (S b), .string (S c), .string (S d)]
def tAnd : Value := row4 [48, 48, 48, 48] [48, 49, 120, 120] [48, 120, 120, 120] [48, 120, 120, 120]
def tOr : Value := row4 [48, 49, 120, 120] [49, 49, 49, 49] [120, 49, 120, 120] [120, 49, 120, 120]
def tXor : Value := row4 [48, 49, 120, 120] [49, 48, 120, 120] [120, 120, 120, 120] [120, 120, 120, 120]
def tAgr : Value := row4 [48, 120, 120, 120] [120, 49, 120, 120] [120, 120, 120, 120] [120, 120, 120, 120]

end Go.Proofs.YtodpljgajjcdoaaGreatDoor

/- Layer 1: bits by a table. -/
namespace Go.Proofs.YtodpljgajjcdoaaGreatDoor
set_option maxRecDepth 100000
open Go.RowKit Lg
set_option linter.unusedVariables false

/-- what a table tells -/
def lk (t0 t1 t2 t3 : List UInt8) (p q : Nat) : UInt8 := ([t0, t1, t2, t3].getD p []).getD q 0
structure Tab (t0 t1 t2 t3 : List UInt8) (f : UInt8 → UInt8 → UInt8) : Prop where
  z0 : t0.length = 4
  z1 : t1.length = 4
  z2 : t2.length = 4
  z3 : t3.length = 4
  is : ∀ x y, lk t0 t1 t2 t3 (plc x) (plc y) = f x y

theorem byte_cases (x : UInt8) : (x = 48 ∧ plc x = 0) ∨ (x = 49 ∧ plc x = 1) ∨ (x ≠ 48 ∧ x ≠ 49 ∧ plc x = 2) ∨ (x ≠ 48 ∧ x ≠ 49 ∧ plc x = 3) := by
  unfold plc
  by_cases h1 : x = 48
  · simp [h1]
  · by_cases h2 : x = 49
    · simp [h2]
    · by_cases h3 : x = 120
      · simp [h3]
      · simp [h1, h2, h3]
theorem tabAnd : Tab [48, 48, 48, 48] [48, 49, 120, 120] [48, 120, 120, 120] [48, 120, 120, 120] band := by
  refine ⟨rfl, rfl, rfl, rfl, fun x y => ?_⟩
  rcases byte_cases x with ⟨a, b⟩ | ⟨a, b⟩ | ⟨a, a', b⟩ | ⟨a, a', b⟩ <;> rcases byte_cases y with ⟨c, d⟩ | ⟨c, d⟩ | ⟨c, c', d⟩ | ⟨c, c', d⟩ <;> rw [b, d] <;> simp [lk, band, *]
theorem tabOr : Tab [48, 49, 120, 120] [49, 49, 49, 49] [120, 49, 120, 120] [120, 49, 120, 120] bor := by
  refine ⟨rfl, rfl, rfl, rfl, fun x y => ?_⟩
  rcases byte_cases x with ⟨a, b⟩ | ⟨a, b⟩ | ⟨a, a', b⟩ | ⟨a, a', b⟩ <;> rcases byte_cases y with ⟨c, d⟩ | ⟨c, d⟩ | ⟨c, c', d⟩ | ⟨c, c', d⟩ <;> rw [b, d] <;> simp [lk, bor, *]
theorem tabXor : Tab [48, 49, 120, 120] [49, 48, 120, 120] [120, 120, 120, 120] [120, 120, 120, 120] bxor := by
  refine ⟨rfl, rfl, rfl, rfl, fun x y => ?_⟩
  rcases byte_cases x with ⟨a, b⟩ | ⟨a, b⟩ | ⟨a, a', b⟩ | ⟨a, a', b⟩ <;> rcases byte_cases y with ⟨c, d⟩ | ⟨c, d⟩ | ⟨c, c', d⟩ | ⟨c, c', d⟩ <;> rw [b, d] <;> simp [lk, bxor, *]
theorem tabAgr : Tab [48, 120, 120, 120] [120, 49, 120, 120] [120, 120, 120, 120] [120, 120, 120, 120] bagr := by
  refine ⟨rfl, rfl, rfl, rfl, fun x y => ?_⟩
  rcases byte_cases x with ⟨a, b⟩ | ⟨a, b⟩ | ⟨a, a', b⟩ | ⟨a, a', b⟩ <;> rcases byte_cases y with ⟨c, d⟩ | ⟨c, d⟩ | ⟨c, c', d⟩ | ⟨c, c', d⟩ <;> rw [b, d] <;> simp [lk, bagr, *]

theorem row_len {t0 t1 t2 t3 : List UInt8} {f : UInt8 → UInt8 → UInt8} (h : Tab t0 t1 t2 t3 f) (p : Nat) (hp : p < 4) : ([t0, t1, t2, t3].getD p []).length = 4 := by
  match p, hp with
  | 0, _ => simp [h.z0]
  | 1, _ => simp [h.z1]
  | 2, _ => simp [h.z2]
  | 3, _ => simp [h.z3]
theorem row_at {t0 t1 t2 t3 : List UInt8} {f : UInt8 → UInt8 → UInt8} (h : Tab t0 t1 t2 t3 f) (x y : UInt8) (tx : ByteArray) (he : tx = S ([t0, t1, t2, t3].getD (pn (x.toNat : Int)) [])) (hq : pn (y.toNat : Int) < tx.size) : tx[pn (y.toNat : Int)] = f x y := by
  rw [at_getD _ _ hq, he, L_S, pn_plc, pn_plc]; exact h.is x y

/-- so many bytes, each by its place -/
theorem str_tab (n : Nat) (f : Nat → UInt8) : strOfNums ((tab n f).map fun c => (c.toNat : Int)) = S (tab n f) := by
  apply L_inj
  rw [L_S, L, strOfNums_data, List.map_map]
  exact (List.map_congr_left (by intro c _; simp)).trans (List.map_id _)
theorem tab_getD (n : Nat) (f : Nat → UInt8) (i : Nat) (h : i < n) : ((tab n f).map fun c => (c.toNat : Int)).getD i 0 = ((f i).toNat : Int) := by
  simp [tab, h]
/-- the row of bytes that a loop fills from its beginning -/
def up (f : Nat → UInt8) (k : Nat) : Nat → Value := fun j => if j < k then .int .u8 (f j).toNat else .int .u8 0
def down (n : Nat) (f : Nat → UInt8) (k : Nat) : Nat → Value := fun j => if n - k ≤ j then .int .u8 (f j).toNat else .int .u8 0

theorem up_step (f : Nat → UInt8) (k : Nat) (v : Value) (hv : v = .int .u8 (f k).toNat) (j : Nat) : (if j = k then v else up f k j) = up f (k + 1) j := by
  unfold up
  by_cases h : j = k
  · subst h; simp [hv]
  · rw [if_neg h]; by_cases h2 : j < k
    · rw [if_pos h2, if_pos (by omega)]
    · rw [if_neg h2, if_neg (by omega)]
theorem down_step (n : Nat) (f : Nat → UInt8) (k i : Nat) (hk : k < n) (hi : i = n - 1 - k) (v : Value) (hv : v = .int .u8 (f i).toNat) (j : Nat) : (if j = i then v else down n f k j) = down n f (k + 1) j := by
  unfold down
  by_cases h : j = i
  · subst h; rw [if_pos rfl, if_pos (by omega), hv]
  · rw [if_neg h]; by_cases h2 : n - k ≤ j
    · rw [if_pos h2, if_pos (by omega)]
    · rw [if_neg h2, if_neg (by omega)]
theorem made_up (w : World) (f : Nat → UInt8) (n b : Nat) (hb : w.heap.size = b) : (w.alloc (.cells (madeCells #[.int .u8 0] n) 5)).rowIs b 5 n (up f 0) := by
  subst hb; exact (World.rowIs_made _ _ _ _).congr (fun j _ => by simp [up])
theorem made_down (w : World) (f : Nat → UInt8) (n b : Nat) (hb : w.heap.size = b) : (w.alloc (.cells (madeCells #[.int .u8 0] n) 5)).rowIs b 5 n (down n f 0) := by
  subst hb; exact (World.rowIs_made _ _ _ _).congr (fun j hj => by unfold down; rw [if_neg (by omega)])
theorem make_c (n : Nat) (hn : n ≤ 140737488355328) (w : World) : (Instr.makeSlice 49 (.int .i64 n) (.int .i64 n)).run Tryz.prog w = .ok (.slice (some ⟨w.heap.size, 0, none⟩) n n) (w.alloc (.cells (madeCells #[.int .u8 0] n) 5)) :=
  run_make_row' (P := Tryz.prog) 49 5 (.int .u8 0) 1 Tryz.underlying49 (by kernel_rfl) rfl .i64 .i64 n (by omega) (by omega) w
theorem conv_c (n b : Nat) (f : Nat → UInt8) (g : Nat → Value) (w : World) (h : w.rowIs b 5 n g) (hg : ∀ j, j < n → g j = .int .u8 (f j).toNat) : (convert 49 9 (.slice (some ⟨b, 0, none⟩) n n)).run Tryz.prog w = .ok (.string (S (tab n f))) w := by
  rw [← str_tab]
  refine run_convert_bytes_arg (P := Tryz.prog) w 49 5 Tryz.underlying49 Tryz.underlying5 b 0 n n _ (by simp [tab]) (fun i hi => ?_) 9 Tryz.underlying9
  rw [Nat.zero_add, h.cell hi, hg i hi, tab_getD n f i hi]

end Go.Proofs.YtodpljgajjcdoaaGreatDoor

/- Layer 1: a table, bit by bit. -/
namespace Go.Proofs.YtodpljgajjcdoaaGreatDoor
set_option maxRecDepth 100000
open Go.RowKit Lg
set_option linter.unusedVariables false

end Go.Proofs.YtodpljgajjcdoaaGreatDoor

/- Layer 1: turned, numbers, sums. -/
namespace Go.Proofs.YtodpljgajjcdoaaGreatDoor
set_option maxRecDepth 100000
open Go.RowKit Lg
set_option linter.unusedVariables false

theorem i64_and1 (n : Int) : bits .and .i64 n 1 = n % 2 := by
  have h1 : (BitVec.ofInt 64 1).toNat = 2 ^ 1 - 1 := by decide
  have key : (BitVec.ofInt 64 n &&& BitVec.ofInt 64 1).toNat = (n % ((2 ^ 64 : Nat) : Int)).toNat % 2 ^ 1 := by
    rw [BitVec.toNat_and, BitVec.toNat_ofInt, h1, Nat.and_two_pow_sub_one_eq_mod]
  show IntKind.i64.wrap ((BitVec.ofInt 64 n &&& BitVec.ofInt 64 1).toNat : Nat) = n % 2
  rw [key, IntKind.wrap_i64]
  omega
theorem sumN_at (s t : ByteArray) (c k i d : Nat) (hi : s.size = i + 1 + k) (hi1 : i < s.size) (hi2 : i < t.size) (hd : d = car (L s) (L t) c k) : sumN (L s) (L t) c i = d + pn ((s[i].toNat : Nat) : Int) + pn ((t[i].toNat : Nat) : Int) := by
  unfold sumN
  rw [len_L, show s.size - 1 - i = k by omega, ← hd, pn_plc, pn_plc, at_getD, at_getD]
theorem car_at (s t : ByteArray) (c k i d : Nat) (hi : s.size = i + 1 + k) (hi1 : i < s.size) (hi2 : i < t.size) (hd : d = car (L s) (L t) c k) : car (L s) (L t) c (k + 1) = (d + pn ((s[i].toNat : Nat) : Int) + pn ((t[i].toNat : Nat) : Int)) / 2 := by
  rw [← sumN_at s t c k i d hi hi1 hi2 hd]
  unfold sumN
  rw [len_L, show s.size - 1 - i = k by omega]
  simp only [car]
  rw [len_L, show s.size - 1 - k = i by omega]
theorem sumBit_nat (a b : List UInt8) (c i : Nat) : ((sumBit a b c i).toNat : Int) = 48 + ((sumN a b c i : Nat) : Int) % 2 := by
  unfold sumBit
  by_cases h : sumN a b c i % 2 = 1
  · rw [if_pos h]; have : ((49 : UInt8).toNat : Int) = 49 := rfl; omega
  · rw [if_neg h]; have : ((48 : UInt8).toNat : Int) = 48 := rfl; omega

end Go.Proofs.YtodpljgajjcdoaaGreatDoor

/- Layer 1: the operators of one width. -/
namespace Go.Proofs.YtodpljgajjcdoaaGreatDoor
set_option maxRecDepth 100000
open Go.RowKit Lg
set_option linter.unusedVariables false

theorem bel {w a b : World} (h : Below w.heap.size w a) (k : Below a.heap.size a b) : Below w.heap.size w b := h.trans (k.mono h.size)
theorem belA {w a : World} (h : Below w.heap.size w a) (o : Obj) : Below w.heap.size w (a.alloc o) := h.alloc h.size o
theorem belD {w : World} : Below w.heap.size w w.drew := (Below.refl _ _).drew

theorem toL (s : ByteArray) : s.toList = L s := Go.ByteArray.toList_eq s
theorem ret_s {a b : List UInt8} {s : ByteArray} (h : a = b) (hs : s = S a) : Ending.returned (.string s) = .returned (.string (S b)) := by rw [hs, h]
theorem upToN_le (l : List UInt8) (m : Nat) : upToN l m ≤ m := by unfold upToN; split <;> omega
theorem shl_str (s : ByteArray) (n : Nat) (h : n ≤ s.size) : s.extract n s.size ++ S (rep n 48) = S (shlL (L s) n) := by
  apply L_inj; rw [L_append, L_extract, L_S, L_S]; unfold shlL; rw [List.take_of_length_le (by simp [len_L])]
theorem shr_str (s : ByteArray) (n : Nat) (h : n ≤ s.size) : S (rep n 48) ++ s.extract 0 (s.size - n) = S (shrL (L s) n) := by
  apply L_inj; rw [L_append, L_extract, L_S, L_S]; unfold shrL; rw [len_L]; simp

end Go.Proofs.YtodpljgajjcdoaaGreatDoor

/- Layer 1: of truths. -/
namespace Go.Proofs.YtodpljgajjcdoaaGreatDoor
set_option maxRecDepth 100000
open Go.RowKit Lg
set_option linter.unusedVariables false

set_option maxRecDepth 100000 in
/-- a string of one byte, made out of a slice of it -/
theorem one_c (c : UInt8) (w : World) : (convert 49 9 (.slice (some ⟨w.heap.size, 0, none⟩) 1 1)).run Tryz.prog (w.alloc (.cells #[.int .u8 c.toNat] 5)) = .ok (.string (S [c])) (w.alloc (.cells #[.int .u8 c.toNat] 5)) := by
  have h := run_convert_bytes_arg (P := Tryz.prog) (w.alloc (.cells #[.int .u8 c.toNat] 5)) 49 5 Tryz.underlying49 Tryz.underlying5 w.heap.size 0 1 1 [(c.toNat : Int)] rfl (fun i hi => by
    obtain rfl : i = 0 := by omega
    rw [World.cell?_alloc_at _ _ _ _ rfl]; rfl) 9 Tryz.underlying9
  rw [h]; congr 2; apply L_inj; rw [L_S, L, strOfNums_data]; simp

end Go.Proofs.YtodpljgajjcdoaaGreatDoor

/- Layer 1: shifts. -/
namespace Go.Proofs.YtodpljgajjcdoaaGreatDoor
set_option maxRecDepth 100000
open Go.RowKit Lg
set_option linter.unusedVariables false

end Go.Proofs.YtodpljgajjcdoaaGreatDoor

/- Layer 1: binary and unary operators. -/
namespace Go.Proofs.YtodpljgajjcdoaaGreatDoor
set_option maxRecDepth 100000
open Go.RowKit Lg
set_option linter.unusedVariables false

theorem ne_b {a b : Int} (h : ¬ a = b) : (a == b) = false := by simpa using h

theorem len_one (c : UInt8) : (S [c]).size = 1 := by rw [size_S]; rfl
theorem turn_one (c : UInt8) : turnL [c] = [bnot c] := rfl

end Go.Proofs.YtodpljgajjcdoaaGreatDoor

/- Layer 1: what is called from outside. -/
namespace Go.Proofs.YtodpljgajjcdoaaGreatDoor
set_option maxRecDepth 100000
open Go.RowKit Lg
set_option linter.unusedVariables false

theorem vectors1_c (a : ByteArray) (w : World) (ha : a.size ≤ maxLen) : Calls Tryz.prog 68 #[.slice (some ⟨w.heap.size, 0, none⟩) 1 1] (w.alloc (.cells #[.string a] 9)) fun e w' => e = .returned (.bool (vec (L a))) ∧ w' = w.alloc (.cells #[.string a] 9) := by
  refine (vectors_c [a] w.heap.size 1 _ (by simp) (fun i hi => ?_) (fun i hi => ?_)).mono ?_
  · rw [World.cell?_alloc_at _ _ _ _ rfl]; obtain rfl : i = 0 := by simp at hi; omega
    rfl
  · obtain rfl : i = 0 := by simp at hi; omega
    exact ha
  · rintro e w' ⟨rfl, rfl⟩; exact ⟨ret_bool (by simp), rfl⟩
theorem vectors2_c (a b : ByteArray) (w : World) (ha : a.size ≤ maxLen) (hb : b.size ≤ maxLen) : Calls Tryz.prog 68 #[.slice (some ⟨w.heap.size, 0, none⟩) 2 2] (w.alloc (.cells #[.string a, .string b] 9)) fun e w' => e = .returned (.bool (vec (L a) && vec (L b))) ∧ w' = w.alloc (.cells #[.string a, .string b] 9) := by
  refine (vectors_c [a, b] w.heap.size 2 _ (by simp) (fun i hi => ?_) (fun i hi => ?_)).mono ?_
  · rw [World.cell?_alloc_at _ _ _ _ rfl]; rcases (show i = 0 ∨ i = 1 by simp at hi; omega) with rfl | rfl <;> rfl
  · rcases (show i = 0 ∨ i = 1 by simp at hi; omega) with rfl | rfl
    · exact ha
    · exact hb
  · rintro e w' ⟨rfl, rfl⟩; exact ⟨ret_bool (by simp), rfl⟩
theorem vectors3_c (a b c : ByteArray) (w : World) (ha : a.size ≤ maxLen) (hb : b.size ≤ maxLen) (hc : c.size ≤ maxLen) : Calls Tryz.prog 68 #[.slice (some ⟨w.heap.size, 0, none⟩) 3 3] (w.alloc (.cells #[.string a, .string b, .string c] 9)) fun e w' => e = .returned (.bool (vec (L a) && (vec (L b) && vec (L c)))) ∧ w' = w.alloc (.cells #[.string a, .string b, .string c] 9) := by
  refine (vectors_c [a, b, c] w.heap.size 3 _ (by simp) (fun i hi => ?_) (fun i hi => ?_)).mono ?_
  · rw [World.cell?_alloc_at _ _ _ _ rfl]; rcases (show i = 0 ∨ i = 1 ∨ i = 2 by simp at hi; omega) with rfl | rfl | rfl <;> rfl
  · rcases (show i = 0 ∨ i = 1 ∨ i = 2 by simp at hi; omega) with rfl | rfl | rfl
    · exact ha
    · exact hb
    · exact hc
  · rintro e w' ⟨rfl, rfl⟩; exact ⟨ret_bool (by simp), rfl⟩

/-- two results -/
theorem ret_si {a b : ByteArray} {n : Int} (h : a = b) : Ending.returned (.tuple #[.string a, .int .i64 n]) = .returned (.tuple #[.string b, .int .i64 n]) := by rw [h]
/-- what Binary answers: a string and an error -/
def binA (op : Int) (a b : List UInt8) : List UInt8 := if op < 13 ∨ 27 < op then [] else if vec a && vec b then binL op a b else []
def binE (op : Int) (a b : List UInt8) : Int := if op < 13 ∨ 27 < op then 1 else if vec a && vec b then 0 else 10

theorem binA_arg {op : Int} {a b : List UInt8} (h : op < 13 ∨ 27 < op) : binA op a b = [] ∧ binE op a b = 1 := by unfold binA binE; rw [if_pos h, if_pos h]; exact ⟨rfl, rfl⟩
theorem binA_ok {op : Int} {a b : List UInt8} (h1 : 13 ≤ op) (h2 : op ≤ 27) (h : (vec a && vec b) = true) : binA op a b = binL op a b ∧ binE op a b = 0 := by
  have hn : ¬ (op < 13 ∨ 27 < op) := by omega
  unfold binA binE; rw [if_neg hn, if_neg hn, h]; exact ⟨rfl, rfl⟩
theorem binA_bad {op : Int} {a b : List UInt8} (h1 : 13 ≤ op) (h2 : op ≤ 27) (h : (vec a && vec b) = false) : binA op a b = [] ∧ binE op a b = 10 := by
  have hn : ¬ (op < 13 ∨ 27 < op) := by omega
  unfold binA binE; rw [if_neg hn, if_neg hn, h]; exact ⟨rfl, rfl⟩
theorem tup2 {s t : List UInt8} {a b : Int} (h : t = s ∧ b = a) : Ending.returned (.tuple #[.string (S s), .int .i64 a]) = .returned (.tuple #[.string (S t), .int .i64 b]) := by rw [h.1, h.2]

def unaA (op : Int) (a : List UInt8) : List UInt8 := if op < 7 ∨ 12 < op then [] else if vec a then unaL op a else []
def unaE (op : Int) (a : List UInt8) : Int := if op < 7 ∨ 12 < op then 1 else if vec a then 0 else 10
theorem unaA_arg {op : Int} {a : List UInt8} (h : op < 7 ∨ 12 < op) : unaA op a = [] ∧ unaE op a = 1 := by unfold unaA unaE; rw [if_pos h, if_pos h]; exact ⟨rfl, rfl⟩
theorem unaA_ok {op : Int} {a : List UInt8} (h1 : 7 ≤ op) (h2 : op ≤ 12) (h : vec a = true) : unaA op a = unaL op a ∧ unaE op a = 0 := by
  have hn : ¬ (op < 7 ∨ 12 < op) := by omega
  unfold unaA unaE; rw [if_neg hn, if_neg hn, h]; exact ⟨rfl, rfl⟩
theorem unaA_bad {op : Int} {a : List UInt8} (h1 : 7 ≤ op) (h2 : op ≤ 12) (h : vec a = false) : unaA op a = [] ∧ unaE op a = 10 := by
  have hn : ¬ (op < 7 ∨ 12 < op) := by omega
  unfold unaA unaE; rw [if_neg hn, if_neg hn, h]; exact ⟨rfl, rfl⟩

def conA (c a b : List UInt8) : List UInt8 := if vec c && (vec a && vec b) then (if a.length = b.length then condL c a b else []) else []
def conE (c a b : List UInt8) : Int := if vec c && (vec a && vec b) then (if a.length = b.length then 0 else 1) else 10
theorem conA_ok {c a b : List UInt8} (h : (vec c && (vec a && vec b)) = true) (h2 : a.length = b.length) : conA c a b = condL c a b ∧ conE c a b = 0 := by
  unfold conA conE; rw [h]; simp [h2]
theorem conA_arg {c a b : List UInt8} (h : (vec c && (vec a && vec b)) = true) (h2 : ¬ a.length = b.length) : conA c a b = [] ∧ conE c a b = 1 := by
  unfold conA conE; rw [h]; simp [h2]
theorem conA_bad {c a b : List UInt8} (h : (vec c && (vec a && vec b)) = false) : conA c a b = [] ∧ conE c a b = 10 := by
  unfold conA conE; rw [h]; exact ⟨rfl, rfl⟩
theorem byteI (c d : UInt8) : ((c.toNat : Int) == (d.toNat : Int)) = (c == d) := by
  rw [Bool.eq_iff_iff]; simp [← UInt8.toNat_inj]; omega
theorem tupS {s : ByteArray} {t : List UInt8} {a b : Int} (h : t = L s ∧ b = a) : Ending.returned (.tuple #[.string s, .int .i64 a]) = .returned (.tuple #[.string (S t), .int .i64 b]) := by rw [h.1, h.2, S_L]

end Go.Proofs.YtodpljgajjcdoaaGreatDoor

/- Layer 1: what is called from outside, more; and that the program is awake. -/
namespace Go.Proofs.YtodpljgajjcdoaaGreatDoor
set_option maxRecDepth 100000
open Go.RowKit Lg
set_option linter.unusedVariables false

def chkE (a : List UInt8) : Int := if vec a then 0 else 10
set_option maxHeartbeats 400000 in
theorem Check_c (s : ByteArray) (w : World) (hs1 : s.size ≤ maxLen) : Calls Tryz.prog 58 #[.string s] w fun e w' => e = .returned (.int .i64 (chkE (L s))) ∧ Below w.heap.size w w' := by
  by_cases h3 : vec (L s) = true
  · go_enter Tryz.func58, Tryz.ntmps58
    go_wp2_with (go_at_call 68; refine (vectors1_c s _ hs1).mono ?_; rintro e w1 ⟨rfl, rfl⟩)
    go_ret
    exact ⟨ret_int (by unfold chkE; rw [if_pos h3]), belA (Below.refl _ _) _⟩
  · have h3' : vec (L s) = false := by simpa using h3
    go_enter Tryz.func58, Tryz.ntmps58
    go_wp2_with (go_at_call 68; refine (vectors1_c s _ hs1).mono ?_; rintro e w1 ⟨rfl, rfl⟩)
    go_ret
    exact ⟨ret_int (by unfold chkE; rw [if_neg h3]), belA (Below.refl _ _) _⟩

def fitA (a : List UInt8) (n : Int) : List UInt8 := if n < 1 ∨ 256 < n then [] else if vec a then fit a n.toNat else []
def fitE (a : List UInt8) (n : Int) : Int := if n < 1 ∨ 256 < n then 1 else if vec a then 0 else 10
end Go.Proofs.YtodpljgajjcdoaaGreatDoor

/- Layer 1: parts, bits, numbers, and when a clock rises. -/
namespace Go.Proofs.YtodpljgajjcdoaaGreatDoor
set_option maxRecDepth 100000
open Go.RowKit Lg
set_option linter.unusedVariables false

/-- when a clock rises, of the two last bytes -/
def riseI (x y : Int) : Bool := if x = 48 then y != 48 else if x = 49 then false else y == 49
def lastI (l : List UInt8) : Int := ((l.getD (l.length - 1) 0).toNat : Int)
def riseB (a b : List UInt8) : Bool := vec a && (vec b && riseI (lastI a) (lastI b))
theorem lastI_at (s : ByteArray) (i : Nat) (hi : s.size = i + 1) (h : i < s.size) : lastI (L s) = ((s[i].toNat : Nat) : Int) := by
  unfold lastI; rw [len_L, show s.size - 1 = i by omega, at_getD]
theorem rise_of {a b : List UInt8} (h : (vec a && vec b) = true) : riseB a b = riseI (lastI a) (lastI b) := by
  simp only [Bool.and_eq_true] at h; unfold riseB; rw [h.1, h.2]; rfl
theorem rise_no {a b : List UInt8} (h : (vec a && vec b) = false) : riseB a b = false := by
  unfold riseB; cases h1 : vec a <;> cases h2 : vec b <;> simp_all

end Go.Proofs.YtodpljgajjcdoaaGreatDoor

/- Layer 1: parts, bits, numbers. -/
namespace Go.Proofs.YtodpljgajjcdoaaGreatDoor
set_option maxRecDepth 100000
open Go.RowKit Lg
set_option linter.unusedVariables false

theorem tupI {x y : Int} {a b : Int} (h : y = x ∧ b = a) : Ending.returned (.tuple #[.int .i64 x, .int .i64 a]) = .returned (.tuple #[.int .i64 y, .int .i64 b]) := by rw [h.1, h.2]
theorem part_L (s : ByteArray) (hi lo : Nat) (h1 : lo ≤ hi) (h2 : hi < s.size) : s.extract (s.size - 1 - hi) (s.size - lo) = S (parL (L s) hi lo) := by
  apply L_inj; rw [L_extract, L_S]; unfold parL; rw [len_L]; congr 1; omega
theorem bit_L (s : ByteArray) (n : Nat) (h : n < s.size) : s.extract (s.size - 1 - n) (s.size - n) = S [bitAt (L s) n] := by
  apply L_inj; unfold bitAt; rw [L_extract, L_S, len_L, show s.size - n - (s.size - 1 - n) = 1 by omega]
  have hl : s.size - 1 - n < (L s).length := by rw [len_L]; omega
  rw [List.drop_eq_getElem_cons hl, List.getD_eq_getElem?_getD, List.getElem?_eq_getElem hl]; rfl
end Go.Proofs.YtodpljgajjcdoaaGreatDoor
