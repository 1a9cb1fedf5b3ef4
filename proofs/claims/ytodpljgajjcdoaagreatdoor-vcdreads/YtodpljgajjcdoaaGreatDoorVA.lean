/- Layer 18: waveforms, plain and in memory; a net's name, what stands ahead of what. -/
import Derived.Test.YtodpljgajjcdoaaGreatDoorGKa
namespace Go.Proofs.YtodpljgajjcdoaaGreatDoor
set_option maxRecDepth 100000
open Go.RowKit Lg Nl Go.Maps
set_option linter.unusedVariables false
set_option linter.unusedSimpArgs false

namespace Wf
/-- a change -/
structure Ch where
  t : Int
  n : Int
  v : ByteArray
def ch0 : Ch := ⟨0, 0, ⟨#[]⟩⟩
/-- a waveform -/
structure Wv where
  nm : List ByteArray
  wd : List Int
  fi : List ByteArray
  li : List Ch
def ahB (a b : Ch) : Bool := decide (a.t < b.t ∨ a.t = b.t ∧ a.n < b.n)
def nmB (c : UInt8) : Bool := decide (33 ≤ (c.toNat : Int) ∧ (c.toNat : Int) ≤ 126)
/-- may a net's name be -/
def nameB (s : ByteArray) : Bool := (L s).all nmB && decide (s.size ≤ 256)
/-- what is at its place -/
def sA (l : List ByteArray) (i : Nat) : ByteArray := l.getD i ⟨#[]⟩
def iA (l : List Int) (i : Nat) : Int := l.getD i 0
def cA (l : List Ch) (i : Nat) : Ch := l.getD i ch0
theorem sA_at {l : List ByteArray} {i : Nat} (h : i < l.length) : sA l i = l[i] := by unfold sA; rw [List.getD_eq_getElem?_getD, List.getElem?_eq_getElem h]; rfl
theorem iA_at {l : List Int} {i : Nat} (h : i < l.length) : iA l i = l[i] := by unfold iA; rw [List.getD_eq_getElem?_getD, List.getElem?_eq_getElem h]; rfl
theorem cA_at {l : List Ch} {i : Nat} (h : i < l.length) : cA l i = l[i] := by unfold cA; rw [List.getD_eq_getElem?_getD, List.getElem?_eq_getElem h]; rfl
/-- a net: name, first value, width -/
def netB (x : Wv) (i : Nat) : Bool := nameB (sA x.nm i) && vec (L (sA x.fi i)) && decide (((sA x.fi i).size : Int) = iA x.wd i)
/-- changes behind a change, the values being those -/
def lsB (wd : List Int) : Option Ch → List ByteArray → List Ch → Bool
  | _, _, [] => true
  | p, now, c :: cs => decide (0 ≤ c.n ∧ c.n < now.length ∧ 0 ≤ c.t ∧ c.t ≤ 4611686018427387903) && (match p with | none => true | some a => ahB a c) && vec (L c.v) && decide ((c.v.size : Int) = iA wd c.n.toNat) && decide (c.v ≠ sA now c.n.toNat) && lsB wd (some c) (now.set c.n.toNat c.v) cs
def lenB (x : Wv) : Bool := decide (x.nm.length ≤ 4096 ∧ x.wd.length = x.nm.length ∧ x.fi.length = x.nm.length)
/-- may a waveform be -/
def mayW (x : Wv) : Bool := lenB x && (List.range x.nm.length).all (netB x) && lsB x.wd none x.fi x.li
end Wf
open Wf

/-- a row of texts, in memory -/
def StrAt (w : World) (v : Value) (l : List ByteArray) : Prop :=
  ∃ ao cap, v = .slice ao l.length cap ∧ (l.length ≤ cap ∧ (ao = none → cap = 0)) ∧ (l = [] ∨ ∃ g o, ao = some ⟨g, o, none⟩ ∧ g < w.heap.size ∧ ∀ i (h : i < l.length), w.cell? ⟨g, o + i, none⟩ = some (.string l[i]))
def chC (c : Ch) : List Value := [.int .i64 c.t, .int .i64 c.n, .string c.v]
/-- a row of changes -/
def ChAt (w : World) (v : Value) (l : List Ch) : Prop :=
  ∃ ao cap, v = .slice ao l.length cap ∧ (l.length ≤ cap ∧ (ao = none → cap = 0)) ∧ (l = [] ∨ ∃ g o, ao = some ⟨g, o, none⟩ ∧ g < w.heap.size ∧ ∀ i (h : i < l.length) j u, (chC l[i])[j]? = some u → w.cell? ⟨g, o + i * 3 + j, none⟩ = some u)
theorem StrAt.below {w w' : World} {v : Value} {l : List ByteArray} (h : StrAt w v l) (hb : Below w.heap.size w w') : StrAt w' v l := by
  obtain ⟨ao, cap, rfl, hc, h⟩ := h
  refine ⟨ao, cap, rfl, hc, ?_⟩
  rcases h with h | ⟨g, o, rfl, hg, h⟩
  · exact Or.inl h
  · exact Or.inr ⟨g, o, rfl, Nat.lt_of_lt_of_le hg hb.size, fun i hi => by rw [hb.cell (p := ⟨g, o + i, none⟩) hg]; exact h i hi⟩
theorem ChAt.below {w w' : World} {v : Value} {l : List Ch} (h : ChAt w v l) (hb : Below w.heap.size w w') : ChAt w' v l := by
  obtain ⟨ao, cap, rfl, hc, h⟩ := h
  refine ⟨ao, cap, rfl, hc, ?_⟩
  rcases h with h | ⟨g, o, rfl, hg, h⟩
  · exact Or.inl h
  · exact Or.inr ⟨g, o, rfl, Nat.lt_of_lt_of_le hg hb.size, fun i hi j u hu => by rw [hb.cell (p := ⟨g, o + i * 3 + j, none⟩) hg]; exact h i hi j u hu⟩
theorem StrAt.at_ {w : World} {ao : Option Addr} {n cap : Nat} {l : List ByteArray} (h : StrAt w (.slice ao n cap) l) (i : Nat) (hi : i < l.length) : ∃ g o, ao = some ⟨g, o, none⟩ ∧ g < w.heap.size ∧ w.cell? ⟨g, o + i, none⟩ = some (.string (sA l i)) := by
  obtain ⟨ao', cap', e, hc, h⟩ := h
  injection e with e1 e2 e3
  subst e1
  rcases h with h | ⟨g, o, rfl, hg, h⟩
  · subst h; simp at hi
  · exact ⟨g, o, rfl, hg, by rw [sA_at hi]; exact h i hi⟩
theorem IntsAt.at_ {w : World} {ao : Option Addr} {n cap : Nat} {l : List Int} (h : IntsAt w (.slice ao n cap) l) (i : Nat) (hi : i < l.length) : ∃ g o, ao = some ⟨g, o, none⟩ ∧ g < w.heap.size ∧ w.cell? ⟨g, o + i, none⟩ = some (.int .i64 (iA l i)) := by
  obtain ⟨ao', cap', e, hc, h⟩ := h
  injection e with e1 e2 e3
  subst e1
  rcases h with h | ⟨g, o, rfl, hg, h⟩
  · subst h; simp at hi
  · exact ⟨g, o, rfl, hg, by rw [iA_at hi]; exact h i hi⟩
theorem ChAt.at_ {w : World} {ao : Option Addr} {n cap : Nat} {l : List Ch} (h : ChAt w (.slice ao n cap) l) (i : Nat) (hi : i < l.length) : ∃ g o, ao = some ⟨g, o, none⟩ ∧ g < w.heap.size ∧ w.cell? ⟨g, o + i * 3, none⟩ = some (.int .i64 (cA l i).t) ∧ w.cell? ⟨g, o + i * 3 + 1, none⟩ = some (.int .i64 (cA l i).n) ∧ w.cell? ⟨g, o + i * 3 + 2, none⟩ = some (.string (cA l i).v) := by
  obtain ⟨ao', cap', e, hc, h⟩ := h
  injection e with e1 e2 e3
  subst e1
  rcases h with h | ⟨g, o, rfl, hg, h⟩
  · subst h; simp at hi
  · rw [cA_at hi]; exact ⟨g, o, rfl, hg, h i hi 0 _ rfl, h i hi 1 _ rfl, h i hi 2 _ rfl⟩
set_option maxHeartbeats 400000 in
theorem named_c (s : ByteArray) (w : World) (hs : s.size ≤ maxLen) : Calls Tryz.prog 42 #[.string s] w fun e w' => e = .returned (.bool (nameB s)) ∧ w' = w := by
  unfold maxLen at hs
  go_enter Tryz.func42, Tryz.ntmps42
  go_wp2
  go_loop [3] (fun i => ∃ k : Nat, k ≤ s.size ∧ i = .int .i64 k ∧ Hid (((L s).take k).all nmB = true)) (fun i => s.size - (intOf i).toNat)
  case atStart => exact ⟨0, Nat.zero_le _, rfl, by simp [Hid]⟩
  case round =>
    obtain ⟨k, hk, rfl, hh⟩ := hrel
    go_wp2
    all_goals first
      | (go_round
         case rel => exact ⟨k + 1, by omega, by go_num, all_snoc s k (by assumption) hh.out (by unfold nmB; exact decide_eq_true (by omega))⟩
         case measure => simp [intOf]; omega)
      | (go_ret; exact ⟨ret_bool (by unfold nameB; rw [all_false s k (by assumption) (by unfold nmB; exact decide_eq_false (by omega))]; rfl), rfl⟩)
      | (go_ret; exact ⟨ret_bool (by have h := hh.out; rw [take_all s k (by omega)] at h; unfold nameB; rw [h]; simp; omega), rfl⟩)
set_option maxHeartbeats 400000 in
theorem ahead_c (a b : Ch) (w : World) : Calls Tryz.prog 44 #[.agg #[.int .i64 a.t, .int .i64 a.n, .string a.v], .agg #[.int .i64 b.t, .int .i64 b.n, .string b.v]] w fun e w' => e = .returned (.bool (ahB a b)) ∧ Below w.heap.size w w' := by
  by_cases h1 : a.t < b.t
  · have h1' : decide (a.t < b.t) = true := decide_eq_true h1
    have H3 : Hid (true = ahB a b) := (decide_eq_true (Or.inl h1)).symm
    clear h1
    go_enter Tryz.func44, Tryz.ntmps44
    go_wp2
    go_ret
    exact ⟨ret_bool H3.out, belA (belA (Below.refl _ _) _) _⟩
  · have h1' : decide (a.t < b.t) = false := decide_eq_false h1
    by_cases h2 : a.t = b.t
    · have h2' : (a.t == b.t) = true := by rw [beq_iff_eq]; exact h2
      have H3 : Hid (decide (a.n < b.n) = ahB a b) := by
        unfold ahB
        exact decide_eq_decide.2 ⟨fun h => Or.inr ⟨h2, h⟩, fun h => h.elim (fun h => absurd h h1) And.right⟩
      clear h1 h2
      go_enter Tryz.func44, Tryz.ntmps44
      go_wp2
      go_ret
      exact ⟨ret_bool H3.out, belA (belA (Below.refl _ _) _) _⟩
    · have h2' : (a.t == b.t) = false := by rw [beq_eq_false_iff_ne]; exact h2
      have H3 : Hid (false = ahB a b) := (decide_eq_false fun h => h.elim h1 fun h => h2 h.1).symm
      clear h1 h2
      go_enter Tryz.func44, Tryz.ntmps44
      go_wp2
      go_ret
      exact ⟨ret_bool H3.out, belA (belA (Below.refl _ _) _) _⟩
end Go.Proofs.YtodpljgajjcdoaaGreatDoor
