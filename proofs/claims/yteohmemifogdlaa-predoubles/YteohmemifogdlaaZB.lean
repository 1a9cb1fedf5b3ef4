/- Layer 3 of the program: the runner at its block. -/
import Derived.Test.YteohmemifogdlaaZA
import Derived.Deep.RegionLaw
namespace Go.Proofs.Yteohmemifogdlaa
open Go.RowKit Lg Go.Maps
set_option linter.unusedVariables false
set_option linter.unusedSimpArgs false

def brc (b : Br) : List Value := [.int .i64 b.p, .bool b.a, .bool b.k, .bool b.t]
def brcs (o : List Br) : List Value := o.flatMap brc
theorem brcs_app (a b : List Br) : brcs (a ++ b) = brcs a ++ brcs b := List.flatMap_append
theorem brcs_one (t : Br) : brcs [t] = brc t := by simp [brcs]
theorem brcs_len (a : List Br) : (brcs a).length = a.length * 4 := by
  induction a with
  | nil => rfl
  | cons t a ih => rw [show brcs (t :: a) = brc t ++ brcs a from rfl, List.length_append, ih, List.length_cons]; show 4 + _ = _; omega
theorem brcs_at {o : List Br} {i : Nat} {b : Br} (h : o[i]? = some b) : (brcs o)[i * 4]? = some (.int .i64 b.p) ∧ (brcs o)[i * 4 + 1]? = some (.bool b.a) ∧ (brcs o)[i * 4 + 2]? = some (.bool b.k) ∧ (brcs o)[i * 4 + 3]? = some (.bool b.t) := by
  induction o generalizing i with
  | nil => cases h
  | cons a l ih =>
    have e : brcs (a :: l) = brc a ++ brcs l := rfl
    have el : (brc a).length = 4 := rfl
    cases i with
    | zero =>
      simp at h; subst h
      exact ⟨rfl, rfl, rfl, rfl⟩
    | succ i =>
      have := ih (i := i) (by simpa using h)
      rw [e]
      refine ⟨?_, ?_, ?_, ?_⟩
      · rw [List.getElem?_append_right (by rw [el]; omega), el, show (i + 1) * 4 - 4 = i * 4 by omega]; exact this.1
      · rw [List.getElem?_append_right (by rw [el]; omega), el, show (i + 1) * 4 + 1 - 4 = i * 4 + 1 by omega]; exact this.2.1
      · rw [List.getElem?_append_right (by rw [el]; omega), el, show (i + 1) * 4 + 2 - 4 = i * 4 + 2 by omega]; exact this.2.2.1
      · rw [List.getElem?_append_right (by rw [el]; omega), el, show (i + 1) * 4 + 3 - 4 = i * 4 + 3 by omega]; exact this.2.2.2
/-- how a map's element reads: as itself -/
def rdV (v : Value) : Option (DataW Value × List MemPlace) := some (.held v, [])
/-- the runner's block -/
structure RB where
  cap : Nat
  g : Nat
  n : Nat
  e : Tok
  at_ : Nat
  mb : Nat
  vo : Value
  vk : Value
def RB.cells (r : RB) : Array Value := #[.slice (some ⟨r.g, 0, none⟩) r.n r.cap, .int .i64 r.e.k, .string (S r.e.x), .int .i64 r.e.p, .int .i64 r.at_, .map (some r.mb), r.vo, r.vk]
def RBl (b : Nat) (r : RB) (w : World) : Prop := w.heap[b]? = some (.cells r.cells 43 (0, 0))
theorem RBl.at_ {b : Nat} {r : RB} {w : World} (h : RBl b r w) :
    w.cell? ⟨b, 0, none⟩ = some (.slice (some ⟨r.g, 0, none⟩) r.n r.cap) ∧ w.cell? ⟨b, 1, none⟩ = some (.int .i64 r.e.k) ∧ w.cell? ⟨b, 2, none⟩ = some (.string (S r.e.x)) ∧ w.cell? ⟨b, 3, none⟩ = some (.int .i64 r.e.p) ∧ w.cell? ⟨b, 4, none⟩ = some (.int .i64 r.at_) ∧
    w.cell? ⟨b, 5, none⟩ = some (.map (some r.mb)) ∧ w.cell? ⟨b, 6, none⟩ = some r.vo ∧ w.cell? ⟨b, 7, none⟩ = some r.vk ∧ (∀ j, w.frozen? ⟨b, j, none⟩ = false) := by
  refine ⟨?_, ?_, ?_, ?_, ?_, ?_, ?_, ?_, fun j => Lib.frozen_of_heap h j⟩ <;> (rw [Lib.cell_of_heap h]; rfl)
theorem RBl.set4 {b : Nat} {r : RB} {w : World} (h : RBl b r w) (x : Nat) (y : Value) (hy : y = .int .i64 x) : RBl b { r with at_ := x } (w.setCell ⟨b, 4, none⟩ y) := by
  subst hy; unfold RBl; simp only [World.setCell]; rw [Array.getElem?_modify, if_pos rfl, h]; rfl
theorem RBl.set6 {b : Nat} {r : RB} {w : World} (h : RBl b r w) (y : Value) : RBl b { r with vo := y } (w.setCell ⟨b, 6, none⟩ y) := by
  unfold RBl; simp only [World.setCell]; rw [Array.getElem?_modify, if_pos rfl, h]; rfl
theorem RBl.set7 {b : Nat} {r : RB} {w : World} (h : RBl b r w) (y : Value) : RBl b { r with vk := y } (w.setCell ⟨b, 7, none⟩ y) := by
  unfold RBl; simp only [World.setCell]; rw [Array.getElem?_modify, if_pos rfl, h]; rfl
theorem infoBr : ∃ i, Try.prog.info? 54 = some i ∧ i.zero = some (.agg #[.int .i64 0, .bool false, .bool false, .bool false]) ∧ i.size = 4 ∧ i.bytes = 16 := info_parts (by kernel_rfl)
theorem last_of {o : List Br} {b : Br} (h : o.getLast? = some b) : o[o.length - 1]? = some b := by rw [← h, List.getLast?_eq_getElem?]

set_option maxHeartbeats 1000000 in
theorem keeping_c (B b : Nat) (r : RB) (o : List Br) (w : World) (h : RBl b r w) (ho : w.ownsRow B 54 4 r.vo o.length (brcs o)) :
    Calls Try.prog 27 #[.pointer (some ⟨b, 0, none⟩)] w fun e w' => e = .returned (.bool (kpB o)) ∧ w' = w.drew := by
  obtain ⟨c0, c1, c2, c3, c4, c5, c6, c7, cf⟩ := h.at_
  cases hg : o.getLast? with
  | none =>
    have hz : o = [] := by simpa using hg
    subst hz
    obtain ⟨ao, cap, hv⟩ := slice_of ho
    rw [hv] at c6
    have HK : Hid (kpB [] = true) := rfl
    clear hg ho h
    go_enter Try.func27, Try.ntmps27
    go_wp2
    go_region
    all_goals go_wp2
    all_goals go_ret
    all_goals exact ⟨ret_bool HK.out.symm, rfl⟩
  | some br =>
    have hlast := last_of hg
    have hpos : 0 < o.length := by
      cases o with
      | nil => cases hg
      | cons a l => simp
    obtain ⟨g2, cap2, hv, q1, q2, q3, q4⟩ := own_some ho hpos
    have hk := q4 _ _ (brcs_at hlast).2.2.1
    obtain ⟨n, hn⟩ : ∃ n, o.length = n + 1 := ⟨o.length - 1, by omega⟩
    rw [hv] at c6
    rw [hn] at c6 hk
    have hk2 : w.cell? ⟨g2, n * 4 + 2, none⟩ = some (.bool br.k) := hk
    have HK : Hid (kpB o = br.k) := by unfold kpB; rw [hg]; exact rfl
    have hnz : (((n : Nat) : Int) + 1 == 0) = false := by rw [beq_eq_false_iff_ne]; omega
    have hnb : n + 1 ≤ 9223372036854775807 := by rw [← hn]; exact q3.2
    clear hg hlast ho q4 hk hv hn h
    go_enter Try.func27, Try.ntmps27
    go_wp2
    go_region
    all_goals go_wp2
    all_goals go_ret
    all_goals exact ⟨ret_bool HK.out.symm, rfl⟩
end Go.Proofs.Yteohmemifogdlaa
