/- The law LogicLess: rows of bytes, boxes of texts. -/
import Derived.Test.YtdacoincdkighaaWY
import Derived.Test.YtdacoincdkighaaMath13
import Derived.Lib.ConvBytes
namespace Go.Proofs.Ytdacoincdkighaa
open Go.RowKit Lg
set_option linter.unusedVariables false

/-- a row of bytes that a text was turned into -/
def BR (w : World) (b n : Nat) (f : Nat → UInt8) : Prop := ∃ c lo hi, w.heap[b]? = some (.cells c 5 (lo, hi)) ∧ n ≤ lo ∧ n ≤ c.size ∧ ∀ i, i < n → c[i]? = some (.int .u8 (f i).toNat)
theorem BR.cell {w : World} {b n : Nat} {f : Nat → UInt8} (h : BR w b n f) (i : Nat) (hi : i < n) : w.cell? ⟨b, i, none⟩ = some (.int .u8 (f i).toNat) := by
  obtain ⟨c, lo, hi', hb, _, _, hc⟩ := h
  simp [World.cell?, hb, hc i hi]
theorem BR.frozen {w : World} {b n : Nat} {f : Nat → UInt8} (h : BR w b n f) (i : Nat) (hi : i < n) : w.frozen? ⟨b, i, none⟩ = false := by
  obtain ⟨c, lo, hi', hb, hl, _, _⟩ := h
  simp [World.frozen?, hb]; omega
theorem BR.set {w : World} {b n : Nat} {f : Nat → UInt8} (h : BR w b n f) (k : Nat) (x : UInt8) : BR (w.setCell ⟨b, k, none⟩ (.int .u8 x.toNat)) b n (fun i => if i = k then x else f i) := by
  obtain ⟨c, lo, hi', hb, hl, hs, hc⟩ := h
  refine ⟨c.setIfInBounds k (.int .u8 x.toNat), lo, hi', ?_, hl, by simpa using hs, fun j hj => ?_⟩
  · simp [World.setCell, Array.getElem?_modify, hb]
  · rw [Array.getElem?_setIfInBounds]
    by_cases e : k = j
    · subst e; simp; omega
    · have e2 : ¬ j = k := fun h => e h.symm
      rw [if_neg e, hc j hj]; simp [e2]
theorem BR.born (w : World) (s : ByteArray) : BR (Lib.bytesWorld w 5 s) w.heap.size s.size (fun i => (L s).getD i 0) := by
  refine ⟨_, _, _, Lib.bytesWorld_at_new w 5 s, ?_, ?_, fun i hi => ?_⟩
  · simp [Lib.bytesCells]
  · simp [Lib.bytesCells]
  · have := Lib.bytesWorld_cell w 5 s i hi
    simp only [World.cell?, Lib.bytesWorld_at_new] at this
    exact this
theorem born_below (w : World) (s : ByteArray) : Below w.heap.size w (Lib.bytesWorld w 5 s) :=
  ⟨rfl, rfl, rfl, by rw [Lib.bytesWorld_size]; omega, fun k hk => Lib.bytesWorld_at_old w 5 s k hk⟩
theorem conv_str (s : ByteArray) (w : World) : (convert 9 57 (.string s)).run Try.prog w = .ok (.slice (some ⟨w.heap.size, 0, none⟩) s.size (grownCap w s.size 0 5)) (Lib.bytesWorld w 5 s) :=
  Lib.run_convert_string_bytes w 9 57 5 s Try.underlying9 Try.underlying57 Try.underlying5
theorem conv_back (n b cap : Nat) (f : Nat → UInt8) (w : World) (h : BR w b n f) : (convert 57 9 (.slice (some ⟨b, 0, none⟩) n cap)).run Try.prog w = .ok (.string (S (tab n f))) w := by
  rw [← str_tab]
  refine run_convert_bytes_arg (P := Try.prog) w 57 5 Try.underlying57 Try.underlying5 b 0 n cap _ (by simp [tab]) (fun i hi => ?_) 9 Try.underlying9
  rw [Nat.zero_add, h.cell i hi, tab_getD n f i hi]
def boxS (a b c : ByteArray) : Obj := .cells #[.string a, .string b, .string c] 56
theorem box_cells {w : World} {B : Nat} {a b c : ByteArray} (h : w.heap[B]? = some (boxS a b c)) : w.cell? ⟨B, 0, none⟩ = some (.string a) ∧ w.cell? ⟨B, 1, none⟩ = some (.string b) ∧ w.cell? ⟨B, 2, none⟩ = some (.string c) := by
  unfold boxS at h
  refine ⟨?_, ?_, ?_⟩ <;> simp [World.cell?, h]
theorem box_frozen {w : World} {B : Nat} {a b c : ByteArray} (h : w.heap[B]? = some (boxS a b c)) (i : Nat) : w.frozen? ⟨B, i, none⟩ = false := by
  unfold boxS at h; simp [World.frozen?, h]
theorem box_lt {w : World} {B : Nat} {a b c : ByteArray} (h : w.heap[B]? = some (boxS a b c)) : B < w.heap.size := (Array.getElem?_eq_some_iff.1 h).1
theorem box_set0 {w : World} {B : Nat} {a b c : ByteArray} (h : w.heap[B]? = some (boxS a b c)) (x : ByteArray) : (w.setCell ⟨B, 0, none⟩ (.string x)).heap[B]? = some (boxS x b c) := by
  unfold boxS at *; simp [World.setCell, Array.getElem?_modify, h]
theorem box_set1 {w : World} {B : Nat} {a b c : ByteArray} (h : w.heap[B]? = some (boxS a b c)) (x : ByteArray) : (w.setCell ⟨B, 1, none⟩ (.string x)).heap[B]? = some (boxS a x c) := by
  unfold boxS at *; simp [World.setCell, Array.getElem?_modify, h]
theorem box_set2 {w : World} {B : Nat} {a b c : ByteArray} (h : w.heap[B]? = some (boxS a b c)) (x : ByteArray) : (w.setCell ⟨B, 2, none⟩ (.string x)).heap[B]? = some (boxS a b x) := by
  unfold boxS at *; simp [World.setCell, Array.getElem?_modify, h]
theorem box_alloc (w : World) (a b c : ByteArray) : (w.alloc (boxS a b c)).heap[w.heap.size]? = some (boxS a b c) := by
  show (w.heap.push _)[w.heap.size]? = _; simp
theorem box2_start (w : World) (v0 v1 v2 : ByteArray) : ((w.alloc (boxS v0 v1 v2)).alloc (boxS ⟨#[]⟩ ⟨#[]⟩ ⟨#[]⟩)).heap[w.heap.size + 1]? = some (boxS ⟨#[]⟩ ⟨#[]⟩ ⟨#[]⟩) := by
  have := box_alloc (w.alloc (boxS v0 v1 v2)) ⟨#[]⟩ ⟨#[]⟩ ⟨#[]⟩
  rwa [show (w.alloc (boxS v0 v1 v2)).heap.size = w.heap.size + 1 by simp] at this
theorem le_set {n j : Nat} {f : Nat → UInt8} {g : Nat → UInt8} (h : ∀ i, i < n → Le1 (f i) (g i)) : ∀ i, i < n → Le1 (if i = j then 120 else f i) (g i) := fun i hi => by
  by_cases e : i = j
  · rw [if_pos e]; exact .inl rfl
  · rw [if_neg e]; exact h i hi
theorem gd_str (v : ByteArray) (f : Nat → UInt8) (hv : vec (L v) = true) (h : ∀ i, i < v.size → Le1 (f i) ((L v).getD i 0)) : Gd (L (S (tab v.size f))) (L v) := by
  rw [L_S]
  have := gd_tab (L v) f hv (by rw [len_L]; exact h)
  rwa [len_L] at this
theorem i64_and31 (n : Int) : bits .and .i64 n 31 = n % 32 := by
  have h31 : (BitVec.ofInt 64 31).toNat = 2 ^ 5 - 1 := by decide
  have key : (BitVec.ofInt 64 n &&& BitVec.ofInt 64 31).toNat = (n % ((2 ^ 64 : Nat) : Int)).toNat % 2 ^ 5 := by
    rw [BitVec.toNat_and, BitVec.toNat_ofInt, h31, Nat.and_two_pow_sub_one_eq_mod]
  show IntKind.i64.wrap ((BitVec.ofInt 64 n &&& BitVec.ofInt 64 31).toNat : Nat) = n % 32
  rw [key, IntKind.wrap_i64]
  omega
end Go.Proofs.Ytdacoincdkighaa
