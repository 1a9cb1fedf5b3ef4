/- Layer 18: a waveform ahead of a time (the document's). -/
import Derived.Test.YtodpljgajjcdoaaGreatDoorVB
namespace Go.Proofs.YtodpljgajjcdoaaGreatDoor
set_option maxRecDepth 100000
open Go.RowKit Lg Nl Go.Maps Wf
set_option linter.unusedVariables false
set_option linter.unusedSimpArgs false

def chs (l : List Ch) : List Value := l.flatMap chC
theorem chs_app (a b : List Ch) : chs (a ++ b) = chs a ++ chs b := by unfold chs; rw [List.flatMap_append]
theorem infoCh : ∃ i, Tryz.prog.info? 34 = some i ∧ i.zero = some (.agg #[.int .i64 0, .int .i64 0, .string ⟨#[]⟩]) ∧ i.size = 3 ∧ i.bytes = 32 := info_parts (by kernel_rfl)
theorem new3 (w : World) (c : Ch) (t : TypeId) (n : Nat) (hn : w.heap.size = n) (j : Nat) (u : Value) (h : (chC c)[j]? = some u) : (w.alloc (.cells #[.int .i64 c.t, .int .i64 c.n, .string c.v] t)).cell? ((⟨n, 0, none⟩ : Addr).add j) = some u := by
  have e1 : ((⟨n, 0, none⟩ : Addr).add j) = ⟨n, j, none⟩ := by simp [Addr.add]; intro h; exact h.symm
  rw [e1, Lib.cell_of_heap (alAt hn)]
  simpa [chC] using h
theorem one3 (c : Ch) : ∀ u ∈ chC c, u.oneCell' = true := by intro u hu; simp [chC] at hu; rcases hu with rfl | rfl | rfl <;> rfl
/-- the changes ahead of a time -/
def cutL (t : Int) (l : List Ch) : List Ch := l.filter fun c => decide (c.t < t)
theorem cut_take (t : Int) (l : List Ch) (k : Nat) (hk : k < l.length) : cutL t (l.take (k + 1)) = if (cA l k).t < t then cutL t (l.take k) ++ [cA l k] else cutL t (l.take k) := by
  unfold cutL
  rw [List.take_add_one, List.getElem?_eq_getElem hk, List.filter_append, cA_at hk]
  split <;> rename_i h <;> simp [h]
theorem cut_len (t : Int) (l : List Ch) (k : Nat) : (cutL t (l.take k)).length ≤ l.length := Nat.le_trans (List.length_filter_le _ _) (List.length_take_le' _ _)
theorem app_b1 {n m : Nat} (h : n = m) (hm : m ≤ 4398046511000) : n + 1 ≤ maxLen := by unfold maxLen; omega
theorem app_b2 {n m : Nat} (h : n = m) (hm : m ≤ 4398046511000) : (n + 1) * 32 ≤ 140737488355328 := by omega
theorem own_lo {w : World} {B C e z n : Nat} {v : Value} {xs : List Value} (h : w.ownsRow B e z v n xs) (hC : C ≤ B) : w.ownsRow C e z v n xs := by
  obtain ⟨h1, h2⟩ := h
  refine ⟨h1, ?_⟩
  rcases h2 with h2 | ⟨g, cap, cur, rfl, hg, r⟩
  · exact Or.inl h2
  · exact Or.inr ⟨g, cap, cur, rfl, Nat.le_trans hC hg, r⟩
theorem wrap_le {i n : Nat} (h : i < n) (hn : n ≤ 140737488355328) : wrap64 ((i : Int) + 1) = ((i + 1 : Nat) : Int) := by unfold wrap64; omega
end Go.Proofs.YtodpljgajjcdoaaGreatDoor
