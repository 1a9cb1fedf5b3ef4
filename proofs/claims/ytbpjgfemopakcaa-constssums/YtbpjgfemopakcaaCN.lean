/- ConstsSums: what is asked. -/
import Derived.Test.YtbpjgfemopakcaaCL
import Derived.Deep.CutRange
import Derived.Deep.LoopGhost
namespace Go.Proofs.Ytbpjgfemopakcaa
open Go.RowKit Lg Go.Maps
set_option linter.unusedVariables false
set_option linter.unusedSimpArgs false

def opsL (j : Nat) : Int := if j = 0 then 13 else if j = 1 then 14 else if j = 2 then 15 else if j = 3 then 17 else 21
/-- the second number of the operator -/
def sec (q : Int) (j : Nat) : Int := if j = 2 then q % 8 else q
def nvL (p q : Int) (j : Nat) : Int := cmV (opsL j) p (sec q j)
theorem i64_and7 (n : Int) : bits .and .i64 n 7 = n % 8 := by
  have h1 : (BitVec.ofInt 64 7).toNat = 2 ^ 3 - 1 := by decide
  have key : (BitVec.ofInt 64 n &&& BitVec.ofInt 64 7).toNat = (n % ((2 ^ 64 : Nat) : Int)).toNat % 2 ^ 3 := by
    rw [BitVec.toNat_and, BitVec.toNat_ofInt, h1, Nat.and_two_pow_sub_one_eq_mod]
  show IntKind.i64.wrap ((BitVec.ofInt 64 n &&& BitVec.ofInt 64 7).toNat : Nat) = n % 8
  rw [key, IntKind.wrap_i64]
  omega
theorem opB_j (p q : Int) {j : Nat} (hj : j < 5) : opB (opsL j) p (sec q j) := by
  have h : j = 0 ∨ j = 1 ∨ j = 2 ∨ j = 3 ∨ j = 4 := by omega
  rcases h with rfl | rfl | rfl | rfl | rfl
  · exact Or.inl rfl
  · exact Or.inr (Or.inl rfl)
  · exact Or.inr (Or.inr (Or.inl ⟨rfl, by show 0 ≤ q % 8; omega, by show q % 8 ≤ 7; omega⟩))
  · exact Or.inr (Or.inr (Or.inr (Or.inl rfl)))
  · exact Or.inr (Or.inr (Or.inr (Or.inr rfl)))
theorem opsL_b {j : Nat} : 13 ≤ opsL j ∧ opsL j ≤ 27 := by unfold opsL; split <;> (try split) <;> (try split) <;> (try split) <;> omega
def nAB (p q : Int) : List UInt8 → Option Int := fPut (fPut (fun _ => none) [65] p) [66] q
theorem leafA (p q : Int) : Leaf (nAB p q) 2 ⟨#[65]⟩ ⟨#[]⟩ p := Or.inr ⟨rfl, by decide, rfl⟩
theorem leafB (p q : Int) : Leaf (nAB p q) 2 ⟨#[66]⟩ ⟨#[]⟩ q := Or.inr ⟨rfl, by decide, rfl⟩
theorem tmodB (a : Int) : -2147483647 ≤ a.tmod 2147483647 ∧ a.tmod 2147483647 ≤ 2147483647 := by
  have h := Int.tmod_lt_of_pos a (b := 2147483647) (by decide)
  have h2 := Int.lt_tmod_of_pos a (b := 2147483647) (by decide)
  omega
def b3 (x y z : Nat) : List UInt8 := [UInt8.ofNat (48 + x), UInt8.ofNat (48 + y), UInt8.ofNat (48 + z)]
set_option maxRecDepth 100000 in
/-- a string of three digits, made out of a slice of them -/
theorem bits3 (b d2 d1 d0 : Nat) (h2 : d2 < 2) (h1 : d1 < 2) (h0 : d0 < 2) (W : World) (h : W.heap[b]? = some (.cells #[.int .u8 (48 + (d2 : Int)), .int .u8 (48 + (d1 : Int)), .int .u8 (48 + (d0 : Int))] 5 (0, 0))) :
    (convert 46 9 (.slice (some ⟨b, 0, none⟩) 3 3)).run Try.prog W = .ok (.string (S (b3 d2 d1 d0))) W := by
  have e := run_convert_bytes_arg (P := Try.prog) W 46 5 Try.underlying46 Try.underlying5 b 0 3 3 [48 + (d2 : Int), 48 + (d1 : Int), 48 + (d0 : Int)] rfl (fun i hi => by
    rw [Lib.cell_of_heap h]
    match i, hi with
    | 0, _ => rfl
    | 1, _ => rfl
    | 2, _ => rfl) 9 Try.underlying9
  rw [e]; congr 2
theorem hset6 {w : World} {b : Nat} {x0 x1 x2 x3 x4 x5 : Value} {t : TypeId} (h : w.heap[b]? = some (.cells #[x0, x1, x2, x3, x4, x5] t (0, 0))) (y0 y1 y2 y3 y4 y5 : Value) : ((((((w.setCell ⟨b, 0, none⟩ y0).setCell ⟨b, 1, none⟩ y1).setCell ⟨b, 2, none⟩ y2).setCell ⟨b, 3, none⟩ y3).setCell ⟨b, 4, none⟩ y4).setCell ⟨b, 5, none⟩ y5).heap[b]? = some (.cells #[y0, y1, y2, y3, y4, y5] t (0, 0)) := by
  simp only [World.setCell]
  iterate 6 rw [Array.getElem?_modify, if_pos rfl]
  rw [h]; rfl
theorem below6 {B : Nat} {a w : World} (h : Below B a w) {b : Nat} (hb : B ≤ b) (y0 y1 y2 y3 y4 y5 : Value) : Below B a ((((((w.setCell ⟨b, 0, none⟩ y0).setCell ⟨b, 1, none⟩ y1).setCell ⟨b, 2, none⟩ y2).setCell ⟨b, 3, none⟩ y3).setCell ⟨b, 4, none⟩ y4).setCell ⟨b, 5, none⟩ y5) :=
  (((((h.setCell hb _).setCell hb _).setCell hb _).setCell hb _).setCell hb _).setCell hb _
theorem dA {wc w4 : World} {D K : Obj} (h : Below ((wc.alloc D).alloc K).drew.heap.size ((wc.alloc D).alloc K).drew w4) : w4.heap[wc.heap.size]? = some D :=
  (h.block _ (by simp; omega)).trans (by show ((wc.alloc D).alloc K).heap[wc.heap.size]? = _; rw [allocOld (by simp), allocAt rfl])
theorem dB {wc w4 : World} {D K : Obj} (h : Below ((wc.alloc K).alloc D).drew.heap.size ((wc.alloc K).alloc D).drew w4) : w4.heap[wc.heap.size + 1]? = some D :=
  (h.block _ (by simp)).trans (by show ((wc.alloc K).alloc D).heap[wc.heap.size + 1]? = _; rw [allocAt (by simp)])
theorem cellsE {W : World} {t : TypeId} {n : Nat} (h : W.heap[n]? = some (.cells #[.int .i64 0, .int .i64 0] t (0, 0))) : W.cell? ⟨n, 0, none⟩ = some (.int .i64 0) ∧ W.cell? ⟨n, 1, none⟩ = some (.int .i64 0) ∧ (∀ j, W.frozen? ⟨n, j, none⟩ = false) ∧ n < W.heap.size :=
  ⟨by rw [Lib.cell_of_heap h]; rfl, by rw [Lib.cell_of_heap h]; rfl, fun j => Lib.frozen_of_heap h j, kLt h⟩
theorem secF {q : Int} {j : Nat} (h1 : -2147483647 ≤ q) (h2 : q ≤ 2147483647) : fitB (sec q j) = true := by
  unfold sec fitB
  split <;> simp <;> omega
theorem XAt.drew {g o : Nat} {op : Int} {nm vl : ByteArray} {pl : Bool} {sl : Value} {p : Int} {w : World} (h : XAt g o op nm vl pl sl p w) : XAt g o op nm vl pl sl p w.drew := ⟨h.c0, h.c1, h.c2, h.c3, h.c4, h.c5⟩
theorem xPairN {w : World} {n : Nat} (hn : w.heap.size = n) {op0 op1 : Int} {nm0 nm1 vl0 vl1 : ByteArray} {pl0 pl1 : Bool} {sl0 sl1 : Value} {p0 p1 : Int} :
    XAt n 0 op0 nm0 vl0 pl0 sl0 p0 (w.alloc (.cells #[.int .i64 op0, .string nm0, .string vl0, .bool pl0, sl0, .int .i64 p0, .int .i64 op1, .string nm1, .string vl1, .bool pl1, sl1, .int .i64 p1] 44)) ∧
    XAt n 6 op1 nm1 vl1 pl1 sl1 p1 (w.alloc (.cells #[.int .i64 op0, .string nm0, .string vl0, .bool pl0, sl0, .int .i64 p0, .int .i64 op1, .string nm1, .string vl1, .bool pl1, sl1, .int .i64 p1] 44)) := by
  subst hn; exact xPair
theorem w48 (d : Nat) (h : d < 2) : wrap64 (48 + (d : Int)) % 256 = 48 + (d : Int) := by unfold wrap64; omega
theorem leaf3 (f : List UInt8 → Option Int) (q : Int) (d2 d1 d0 : Nat) (h2 : (d2 : Int) = q / 4 % 2) (h1 : (d1 : Int) = q / 2 % 2) (h0 : (d0 : Int) = q % 2) : Leaf f 1 ⟨#[]⟩ (S (b3 d2 d1 d0)) (q % 8) := by
  have e : q % 8 = 4 * d2 + 2 * d1 + d0 := by omega
  have l2 : d2 = 0 ∨ d2 = 1 := by omega
  have l1 : d1 = 0 ∨ d1 = 1 := by omega
  have l0 : d0 = 0 ∨ d0 = 1 := by omega
  rw [e]
  clear e h0 h1 h2
  rcases l2 with rfl | rfl <;> rcases l1 with rfl | rfl <;> rcases l0 with rfl | rfl <;> exact Or.inl ⟨rfl, by decide, by decide, by decide⟩
/-- the world ahead of the loop -/
structure SuW (p q x3 x4 : Int) (w wc : World) : Prop where
  sz : wc.heap.size = w.heap.size + 1 + 1
  bel : Below w.heap.size w wc
  o : wc.heap[w.heap.size]? = some (.cells #[.int .i64 13, .int .i64 14, .int .i64 15, .int .i64 17, .int .i64 21] 3 (0, 0))
  n : wc.heap[w.heap.size + 1]? = some (.cells #[.int .i64 (p + q), .int .i64 (p - q), .int .i64 (p * 2 ^ (q % 8).toNat), .int .i64 x3, .int .i64 x4] 3 (0, 0))
theorem suW_new {p q x2 x3 x4 y3 y4 : Int} {w : World} (hx : x2 = p * 2 ^ (q % 8).toNat) (h3 : x3 = y3) (h4 : x4 = y4) : SuW p q y3 y4 w ((w.alloc (.cells #[.int .i64 13, .int .i64 14, .int .i64 15, .int .i64 17, .int .i64 21] 3)).alloc (.cells #[.int .i64 (p + q), .int .i64 (p - q), .int .i64 x2, .int .i64 x3, .int .i64 x4] 3)) := by
  subst hx; subst h3; subst h4
  exact ⟨by simp, belA (belA (Below.refl _ _) _) _, by rw [allocOld (by simp), allocAt rfl], by rw [allocAt (by simp)]⟩
theorem suW_set {p q x3 x4 y4 : Int} {w wc : World} (h : SuW p q x3 x4 w wc) : SuW p q x3 y4 w (wc.setCell ⟨w.heap.size + 1, 4, none⟩ (.int .i64 y4)) := by
  refine ⟨by simp [World.setCell]; exact h.sz, h.bel.setCell (by show w.heap.size ≤ w.heap.size + 1; omega) _, ?_, ?_⟩
  · rw [Below.heap_setCell _ _ _ _ (by show w.heap.size ≠ w.heap.size + 1; omega)]; exact h.o
  · simp only [World.setCell]; rw [Array.getElem?_modify, if_pos rfl, h.n]; rfl
theorem SuW.cell {p q : Int} {w wc : World} (h : SuW p q (if p < q then 1 else 0) (if p = q then 1 else 0) w wc) {j : Nat} (hj : j < 5) : wc.cell? ⟨w.heap.size, j, none⟩ = some (.int .i64 (opsL j)) ∧ wc.cell? ⟨w.heap.size + 1, j, none⟩ = some (.int .i64 (nvL p q j)) := by
  have h5 : j = 0 ∨ j = 1 ∨ j = 2 ∨ j = 3 ∨ j = 4 := by omega
  rcases h5 with rfl | rfl | rfl | rfl | rfl
  all_goals refine ⟨by rw [Lib.cell_of_heap h.o]; rfl, by rw [Lib.cell_of_heap h.n]; simp [nvL, opsL, sec, cmV, hoB]⟩
end Go.Proofs.Ytbpjgfemopakcaa
