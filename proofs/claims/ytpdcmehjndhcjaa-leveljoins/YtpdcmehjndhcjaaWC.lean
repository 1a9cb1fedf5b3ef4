/- Layer 1: bits by a table. -/
import Derived.Test.YtpdcmehjndhcjaaWB
namespace Go.Proofs.Ytpdcmehjndhcjaa
open Go.RowKit Lg
set_option linter.unusedVariables false

/-- what a table tells -/
def lk (t0 t1 t2 t3 : List UInt8) (p q : Nat) : UInt8 := ([t0, t1, t2, t3].getD p []).getD q 0
structure Tab (t0 t1 t2 t3 : List UInt8) (f : UInt8 → UInt8 → UInt8) : Prop where
  z0 : t0.length = 4
  z1 : t1.length = 4
  z2 : t2.length = 4
  z3 : t3.length = 4
  is : ∀ x y, lk t0 t1 t2 t3 (plc x) (plc y) = f x y

theorem byte_cases (x : UInt8) : (x = 48 ∧ plc x = 0) ∨ (x = 49 ∧ plc x = 1) ∨ (x ≠ 48 ∧ x ≠ 49 ∧ plc x = 2) ∨ (x ≠ 48 ∧ x ≠ 49 ∧ plc x = 3) := by
  unfold plc
  by_cases h1 : x = 48
  · simp [h1]
  · by_cases h2 : x = 49
    · simp [h2]
    · by_cases h3 : x = 120
      · simp [h3]
      · simp [h1, h2, h3]
theorem tabAnd : Tab [48, 48, 48, 48] [48, 49, 120, 120] [48, 120, 120, 120] [48, 120, 120, 120] band := by
  refine ⟨rfl, rfl, rfl, rfl, fun x y => ?_⟩
  rcases byte_cases x with ⟨a, b⟩ | ⟨a, b⟩ | ⟨a, a', b⟩ | ⟨a, a', b⟩ <;> rcases byte_cases y with ⟨c, d⟩ | ⟨c, d⟩ | ⟨c, c', d⟩ | ⟨c, c', d⟩ <;> rw [b, d] <;> simp [lk, band, *]
theorem tabOr : Tab [48, 49, 120, 120] [49, 49, 49, 49] [120, 49, 120, 120] [120, 49, 120, 120] bor := by
  refine ⟨rfl, rfl, rfl, rfl, fun x y => ?_⟩
  rcases byte_cases x with ⟨a, b⟩ | ⟨a, b⟩ | ⟨a, a', b⟩ | ⟨a, a', b⟩ <;> rcases byte_cases y with ⟨c, d⟩ | ⟨c, d⟩ | ⟨c, c', d⟩ | ⟨c, c', d⟩ <;> rw [b, d] <;> simp [lk, bor, *]
theorem tabXor : Tab [48, 49, 120, 120] [49, 48, 120, 120] [120, 120, 120, 120] [120, 120, 120, 120] bxor := by
  refine ⟨rfl, rfl, rfl, rfl, fun x y => ?_⟩
  rcases byte_cases x with ⟨a, b⟩ | ⟨a, b⟩ | ⟨a, a', b⟩ | ⟨a, a', b⟩ <;> rcases byte_cases y with ⟨c, d⟩ | ⟨c, d⟩ | ⟨c, c', d⟩ | ⟨c, c', d⟩ <;> rw [b, d] <;> simp [lk, bxor, *]
theorem tabAgr : Tab [48, 120, 120, 120] [120, 49, 120, 120] [120, 120, 120, 120] [120, 120, 120, 120] bagr := by
  refine ⟨rfl, rfl, rfl, rfl, fun x y => ?_⟩
  rcases byte_cases x with ⟨a, b⟩ | ⟨a, b⟩ | ⟨a, a', b⟩ | ⟨a, a', b⟩ <;> rcases byte_cases y with ⟨c, d⟩ | ⟨c, d⟩ | ⟨c, c', d⟩ | ⟨c, c', d⟩ <;> rw [b, d] <;> simp [lk, bagr, *]

theorem row_len {t0 t1 t2 t3 : List UInt8} {f : UInt8 → UInt8 → UInt8} (h : Tab t0 t1 t2 t3 f) (p : Nat) (hp : p < 4) : ([t0, t1, t2, t3].getD p []).length = 4 := by
  match p, hp with
  | 0, _ => simp [h.z0]
  | 1, _ => simp [h.z1]
  | 2, _ => simp [h.z2]
  | 3, _ => simp [h.z3]
theorem row_at {t0 t1 t2 t3 : List UInt8} {f : UInt8 → UInt8 → UInt8} (h : Tab t0 t1 t2 t3 f) (x y : UInt8) (tx : ByteArray) (he : tx = S ([t0, t1, t2, t3].getD (pn (x.toNat : Int)) [])) (hq : pn (y.toNat : Int) < tx.size) : tx[pn (y.toNat : Int)] = f x y := by
  rw [at_getD _ _ hq, he, L_S, pn_plc, pn_plc]; exact h.is x y

/-- so many bytes, each by its place -/
theorem str_tab (n : Nat) (f : Nat → UInt8) : strOfNums ((tab n f).map fun c => (c.toNat : Int)) = S (tab n f) := by
  apply L_inj
  rw [L_S, L, strOfNums_data, List.map_map]
  exact (List.map_congr_left (by intro c _; simp)).trans (List.map_id _)
theorem tab_getD (n : Nat) (f : Nat → UInt8) (i : Nat) (h : i < n) : ((tab n f).map fun c => (c.toNat : Int)).getD i 0 = ((f i).toNat : Int) := by
  simp [tab, h]
/-- the row of bytes that a loop fills from its beginning -/
def up (f : Nat → UInt8) (k : Nat) : Nat → Value := fun j => if j < k then .int .u8 (f j).toNat else .int .u8 0
def down (n : Nat) (f : Nat → UInt8) (k : Nat) : Nat → Value := fun j => if n - k ≤ j then .int .u8 (f j).toNat else .int .u8 0

theorem up_step (f : Nat → UInt8) (k : Nat) (v : Value) (hv : v = .int .u8 (f k).toNat) (j : Nat) : (if j = k then v else up f k j) = up f (k + 1) j := by
  unfold up
  by_cases h : j = k
  · subst h; simp [hv]
  · rw [if_neg h]; by_cases h2 : j < k
    · rw [if_pos h2, if_pos (by omega)]
    · rw [if_neg h2, if_neg (by omega)]
theorem down_step (n : Nat) (f : Nat → UInt8) (k i : Nat) (hk : k < n) (hi : i = n - 1 - k) (v : Value) (hv : v = .int .u8 (f i).toNat) (j : Nat) : (if j = i then v else down n f k j) = down n f (k + 1) j := by
  unfold down
  by_cases h : j = i
  · subst h; rw [if_pos rfl, if_pos (by omega), hv]
  · rw [if_neg h]; by_cases h2 : n - k ≤ j
    · rw [if_pos h2, if_pos (by omega)]
    · rw [if_neg h2, if_neg (by omega)]
theorem made_up (w : World) (f : Nat → UInt8) (n b : Nat) (hb : w.heap.size = b) : (w.alloc (.cells (madeCells #[.int .u8 0] n) 5)).rowIs b 5 n (up f 0) := by
  subst hb; exact (World.rowIs_made _ _ _ _).congr (fun j _ => by simp [up])
theorem made_down (w : World) (f : Nat → UInt8) (n b : Nat) (hb : w.heap.size = b) : (w.alloc (.cells (madeCells #[.int .u8 0] n) 5)).rowIs b 5 n (down n f 0) := by
  subst hb; exact (World.rowIs_made _ _ _ _).congr (fun j hj => by unfold down; rw [if_neg (by omega)])
theorem make_c (n : Nat) (hn : n ≤ 140737488355328) (w : World) : (Instr.makeSlice 67 (.int .i64 n) (.int .i64 n)).run Try.prog w = .ok (.slice (some ⟨w.heap.size, 0, none⟩) n n) (w.alloc (.cells (madeCells #[.int .u8 0] n) 5)) :=
  run_make_row' (P := Try.prog) 67 5 (.int .u8 0) 1 Try.underlying67 (by kernel_rfl) rfl .i64 .i64 n (by omega) (by omega) w
theorem conv_c (n b : Nat) (f : Nat → UInt8) (g : Nat → Value) (w : World) (h : w.rowIs b 5 n g) (hg : ∀ j, j < n → g j = .int .u8 (f j).toNat) : (convert 67 9 (.slice (some ⟨b, 0, none⟩) n n)).run Try.prog w = .ok (.string (S (tab n f))) w := by
  rw [← str_tab]
  refine run_convert_bytes_arg (P := Try.prog) w 67 5 Try.underlying67 Try.underlying5 b 0 n n _ (by simp [tab]) (fun i hi => ?_) 9 Try.underlying9
  rw [Nat.zero_add, h.cell hi, hg i hi, tab_getD n f i hi]

end Go.Proofs.Ytpdcmehjndhcjaa
