/- Layer 1: what is called from outside. -/
import Derived.Test.YtpdcmehjndhcjaaWI
namespace Go.Proofs.Ytpdcmehjndhcjaa
open Go.RowKit Lg
set_option linter.unusedVariables false

theorem vectors1_c (a : ByteArray) (w : World) (ha : a.size ≤ maxLen) : Calls Try.prog 39 #[.slice (some ⟨w.heap.size, 0, none⟩) 1 1] (w.alloc (.cells #[.string a] 9)) fun e w' => e = .returned (.bool (vec (L a))) ∧ w' = w.alloc (.cells #[.string a] 9) := by
  refine (vectors_c [a] w.heap.size 1 _ (by simp) (fun i hi => ?_) (fun i hi => ?_)).mono ?_
  · rw [World.cell?_alloc_at _ _ _ _ rfl]; obtain rfl : i = 0 := by simp at hi; omega
    rfl
  · obtain rfl : i = 0 := by simp at hi; omega
    exact ha
  · rintro e w' ⟨rfl, rfl⟩; exact ⟨ret_bool (by simp), rfl⟩
theorem vectors2_c (a b : ByteArray) (w : World) (ha : a.size ≤ maxLen) (hb : b.size ≤ maxLen) : Calls Try.prog 39 #[.slice (some ⟨w.heap.size, 0, none⟩) 2 2] (w.alloc (.cells #[.string a, .string b] 9)) fun e w' => e = .returned (.bool (vec (L a) && vec (L b))) ∧ w' = w.alloc (.cells #[.string a, .string b] 9) := by
  refine (vectors_c [a, b] w.heap.size 2 _ (by simp) (fun i hi => ?_) (fun i hi => ?_)).mono ?_
  · rw [World.cell?_alloc_at _ _ _ _ rfl]; rcases (show i = 0 ∨ i = 1 by simp at hi; omega) with rfl | rfl <;> rfl
  · rcases (show i = 0 ∨ i = 1 by simp at hi; omega) with rfl | rfl
    · exact ha
    · exact hb
  · rintro e w' ⟨rfl, rfl⟩; exact ⟨ret_bool (by simp), rfl⟩
theorem vectors3_c (a b c : ByteArray) (w : World) (ha : a.size ≤ maxLen) (hb : b.size ≤ maxLen) (hc : c.size ≤ maxLen) : Calls Try.prog 39 #[.slice (some ⟨w.heap.size, 0, none⟩) 3 3] (w.alloc (.cells #[.string a, .string b, .string c] 9)) fun e w' => e = .returned (.bool (vec (L a) && (vec (L b) && vec (L c)))) ∧ w' = w.alloc (.cells #[.string a, .string b, .string c] 9) := by
  refine (vectors_c [a, b, c] w.heap.size 3 _ (by simp) (fun i hi => ?_) (fun i hi => ?_)).mono ?_
  · rw [World.cell?_alloc_at _ _ _ _ rfl]; rcases (show i = 0 ∨ i = 1 ∨ i = 2 by simp at hi; omega) with rfl | rfl | rfl <;> rfl
  · rcases (show i = 0 ∨ i = 1 ∨ i = 2 by simp at hi; omega) with rfl | rfl | rfl
    · exact ha
    · exact hb
    · exact hc
  · rintro e w' ⟨rfl, rfl⟩; exact ⟨ret_bool (by simp), rfl⟩

/-- two results -/
theorem ret_si {a b : ByteArray} {n : Int} (h : a = b) : Ending.returned (.tuple #[.string a, .int .i64 n]) = .returned (.tuple #[.string b, .int .i64 n]) := by rw [h]
/-- what Binary answers: a string and an error -/
def binA (op : Int) (a b : List UInt8) : List UInt8 := if op < 13 ∨ 27 < op then [] else if vec a && vec b then binL op a b else []
def binE (op : Int) (a b : List UInt8) : Int := if op < 13 ∨ 27 < op then 1 else if vec a && vec b then 0 else 10

theorem binA_arg {op : Int} {a b : List UInt8} (h : op < 13 ∨ 27 < op) : binA op a b = [] ∧ binE op a b = 1 := by unfold binA binE; rw [if_pos h, if_pos h]; exact ⟨rfl, rfl⟩
theorem binA_ok {op : Int} {a b : List UInt8} (h1 : 13 ≤ op) (h2 : op ≤ 27) (h : (vec a && vec b) = true) : binA op a b = binL op a b ∧ binE op a b = 0 := by
  have hn : ¬ (op < 13 ∨ 27 < op) := by omega
  unfold binA binE; rw [if_neg hn, if_neg hn, h]; exact ⟨rfl, rfl⟩
theorem binA_bad {op : Int} {a b : List UInt8} (h1 : 13 ≤ op) (h2 : op ≤ 27) (h : (vec a && vec b) = false) : binA op a b = [] ∧ binE op a b = 10 := by
  have hn : ¬ (op < 13 ∨ 27 < op) := by omega
  unfold binA binE; rw [if_neg hn, if_neg hn, h]; exact ⟨rfl, rfl⟩
theorem tup2 {s t : List UInt8} {a b : Int} (h : t = s ∧ b = a) : Ending.returned (.tuple #[.string (S s), .int .i64 a]) = .returned (.tuple #[.string (S t), .int .i64 b]) := by rw [h.1, h.2]

def unaA (op : Int) (a : List UInt8) : List UInt8 := if op < 7 ∨ 12 < op then [] else if vec a then unaL op a else []
def unaE (op : Int) (a : List UInt8) : Int := if op < 7 ∨ 12 < op then 1 else if vec a then 0 else 10
theorem unaA_arg {op : Int} {a : List UInt8} (h : op < 7 ∨ 12 < op) : unaA op a = [] ∧ unaE op a = 1 := by unfold unaA unaE; rw [if_pos h, if_pos h]; exact ⟨rfl, rfl⟩
theorem unaA_ok {op : Int} {a : List UInt8} (h1 : 7 ≤ op) (h2 : op ≤ 12) (h : vec a = true) : unaA op a = unaL op a ∧ unaE op a = 0 := by
  have hn : ¬ (op < 7 ∨ 12 < op) := by omega
  unfold unaA unaE; rw [if_neg hn, if_neg hn, h]; exact ⟨rfl, rfl⟩
theorem unaA_bad {op : Int} {a : List UInt8} (h1 : 7 ≤ op) (h2 : op ≤ 12) (h : vec a = false) : unaA op a = [] ∧ unaE op a = 10 := by
  have hn : ¬ (op < 7 ∨ 12 < op) := by omega
  unfold unaA unaE; rw [if_neg hn, if_neg hn, h]; exact ⟨rfl, rfl⟩

def conA (c a b : List UInt8) : List UInt8 := if vec c && (vec a && vec b) then (if a.length = b.length then condL c a b else []) else []
def conE (c a b : List UInt8) : Int := if vec c && (vec a && vec b) then (if a.length = b.length then 0 else 1) else 10
theorem conA_ok {c a b : List UInt8} (h : (vec c && (vec a && vec b)) = true) (h2 : a.length = b.length) : conA c a b = condL c a b ∧ conE c a b = 0 := by
  unfold conA conE; rw [h]; simp [h2]
theorem conA_arg {c a b : List UInt8} (h : (vec c && (vec a && vec b)) = true) (h2 : ¬ a.length = b.length) : conA c a b = [] ∧ conE c a b = 1 := by
  unfold conA conE; rw [h]; simp [h2]
theorem conA_bad {c a b : List UInt8} (h : (vec c && (vec a && vec b)) = false) : conA c a b = [] ∧ conE c a b = 10 := by
  unfold conA conE; rw [h]; exact ⟨rfl, rfl⟩
theorem byteI (c d : UInt8) : ((c.toNat : Int) == (d.toNat : Int)) = (c == d) := by
  rw [Bool.eq_iff_iff]; simp [← UInt8.toNat_inj]; omega
theorem tupS {s : ByteArray} {t : List UInt8} {a b : Int} (h : t = L s ∧ b = a) : Ending.returned (.tuple #[.string s, .int .i64 a]) = .returned (.tuple #[.string (S t), .int .i64 b]) := by rw [h.1, h.2, S_L]

end Go.Proofs.Ytpdcmehjndhcjaa
