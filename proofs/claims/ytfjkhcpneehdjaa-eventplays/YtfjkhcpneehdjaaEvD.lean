/- Rows of events in memory: Len, Less, Swap. -/
import Derived.Test.YtfjkhcpneehdjaaEvC
import Derived.BigRegion
import Derived.Laws.OwnMore
namespace Go.Proofs.Ytfjkhcpneehdjaa
open Go.RowKit Qu Go.Maps
set_option linter.unusedVariables false
set_option linter.unusedSimpArgs false

def evs (l : List Ev) : List Value := l.flatMap evC
theorem evs_cons (e : Ev) (l : List Ev) : evs (e :: l) = evC e ++ evs l := rfl
theorem evs_app (a b : List Ev) : evs (a ++ b) = evs a ++ evs b := by unfold evs; rw [List.flatMap_append]
theorem evs_len (l : List Ev) : (evs l).length = l.length * 6 := by
  induction l with
  | nil => rfl
  | cons e l ih => rw [evs_cons, List.length_append, ih]; simp [evC]; omega
theorem evs_at (l : List Ev) (i c : Nat) (hi : i < l.length) (hc : c < 6) : (evs l)[i * 6 + c]? = (evC (g l i))[c]? := by
  induction l generalizing i with
  | nil => cases hi
  | cons e l ih =>
    rw [evs_cons]
    match i with
    | 0 => rw [List.getElem?_append_left (by simp [evC]; omega)]; simp [g]
    | i + 1 =>
      rw [List.getElem?_append_right (by simp [evC]; omega), show (i + 1) * 6 + c - (evC e).length = i * 6 + c by simp [evC]; omega, ih i (by simpa using hi)]
      rfl
def set6 (xs : List Value) (i : Nat) (e : Ev) : List Value := (((((xs.set (i * 6) (.int .i64 e.t)).set (i * 6 + 1) (.int .i64 e.nd)).set (i * 6 + 2) (.string e.v)).set (i * 6 + 3) (.int .i64 e.fr)).set (i * 6 + 4) (.int .i64 e.sq)).set (i * 6 + 5) (.bool e.an)
theorem evs_set (l : List Ev) (i : Nat) (e : Ev) (hi : i < l.length) : set6 (evs l) i e = evs (l.set i e) := by
  induction l generalizing i with
  | nil => cases hi
  | cons a l ih =>
    match i with
    | 0 => rfl
    | i + 1 =>
      have := ih i (by simpa using hi)
      rw [List.set_cons_succ, evs_cons, evs_cons, ← this]
      unfold set6
      rw [show (i + 1) * 6 = i * 6 + 1 + 1 + 1 + 1 + 1 + 1 by omega]
      rfl
/-- a row of events -/
def EvR (B : Nat) (W : World) (gb cap : Nat) (l : List Ev) : Prop := W.ownsRow B 34 6 (.slice (some ⟨gb, 0, none⟩) l.length cap) l.length (evs l)
theorem EvR.cells {B : Nat} {W : World} {gb cap : Nat} {l : List Ev} (h : EvR B W gb cap l) (i : Nat) (hi : i < l.length) :
    W.cell? ⟨gb, i * 6, none⟩ = some (.int .i64 (g l i).t) ∧ W.cell? ⟨gb, i * 6 + 1, none⟩ = some (.int .i64 (g l i).nd) ∧ W.cell? ⟨gb, i * 6 + 2, none⟩ = some (.string (g l i).v) ∧ W.cell? ⟨gb, i * 6 + 3, none⟩ = some (.int .i64 (g l i).fr) ∧ W.cell? ⟨gb, i * 6 + 4, none⟩ = some (.int .i64 (g l i).sq) ∧ W.cell? ⟨gb, i * 6 + 5, none⟩ = some (.bool (g l i).an) := by
  have k : ∀ c, c < 6 → W.cell? ⟨gb, i * 6 + c, none⟩ = (evC (g l i))[c]? := fun c hc => (h.cellAt _ (by omega)).trans (evs_at l i c hi hc)
  exact ⟨k 0 (by omega), k 1 (by omega), k 2 (by omega), k 3 (by omega), k 4 (by omega), k 5 (by omega)⟩
theorem EvR.frozen {B : Nat} {W : World} {gb cap : Nat} {l : List Ev} (h : EvR B W gb cap l) (j : Nat) : W.frozen? ⟨gb, j, none⟩ = false := World.ownsRow.frozenAt h j
theorem EvR.lt {B : Nat} {W : World} {gb cap : Nat} {l : List Ev} (h : EvR B W gb cap l) : gb < W.heap.size := (World.ownsRow.lt h gb rfl).2
theorem EvR.ge {B : Nat} {W : World} {gb cap : Nat} {l : List Ev} (h : EvR B W gb cap l) : B ≤ gb := (World.ownsRow.lt h gb rfl).1
theorem own_at {w w' : World} {B e z n : Nat} {v : Value} {xs : List Value} (h : w.ownsRow B e z v n xs) (hb : ∀ k, v.ownBlock = some k → w'.heap[k]? = w.heap[k]?) : w'.ownsRow B e z v n xs := by
  obtain ⟨h1, h2⟩ := h
  refine ⟨h1, ?_⟩
  rcases h2 with h2 | ⟨g, cap, cur, rfl, hg, hh, r⟩
  · exact Or.inl h2
  · exact Or.inr ⟨g, cap, cur, rfl, hg, (hb g rfl).trans hh, r⟩
theorem EvR.at_ {B : Nat} {W W' : World} {gb cap : Nat} {l : List Ev} (h : EvR B W gb cap l) (e : W'.heap[gb]? = W.heap[gb]?) : EvR B W' gb cap l := own_at h fun k hk => by injection hk with hk; subst hk; exact e
theorem EvR.drew {B : Nat} {W : World} {gb cap : Nat} {l : List Ev} (h : EvR B W gb cap l) : EvR B W.drew gb cap l := h.at_ rfl
/-- the world with the six cells of an event set -/
def sw6 (W : World) (gb i : Nat) (e : Ev) : World := (((((W.setCell ⟨gb, i * 6, none⟩ (.int .i64 e.t)).setCell ⟨gb, i * 6 + 1, none⟩ (.int .i64 e.nd)).setCell ⟨gb, i * 6 + 2, none⟩ (.string e.v)).setCell ⟨gb, i * 6 + 3, none⟩ (.int .i64 e.fr)).setCell ⟨gb, i * 6 + 4, none⟩ (.int .i64 e.sq)).setCell ⟨gb, i * 6 + 5, none⟩ (.bool e.an)
theorem EvR.set {B : Nat} {W : World} {gb cap : Nat} {l : List Ev} (h : EvR B W gb cap l) (i : Nat) (hi : i < l.length) (e : Ev) : EvR B (sw6 W gb i e) gb cap (l.set i e) := by
  unfold EvR
  rw [List.length_set, ← evs_set l i e hi]
  exact ((((((h.stored _ _).1.stored _ _).1.stored _ _).1.stored _ _).1.stored _ _).1.stored _ _).1
/-- one block alone has turned; more may be there -/
structure But (T : Nat) (w w' : World) : Prop where
  os : w'.os = w.os
  tape : w'.tape = w.tape
  output : w'.output = w.output
  size : w.heap.size ≤ w'.heap.size
  block : ∀ k, k < w.heap.size → k ≠ T → w'.heap[k]? = w.heap[k]?
theorem But.refl (T : Nat) (w : World) : But T w w := ⟨rfl, rfl, rfl, Nat.le_refl _, fun _ _ _ => rfl⟩
theorem But.trans {T : Nat} {a b c : World} (h : But T a b) (k : But T b c) : But T a c := ⟨k.os.trans h.os, k.tape.trans h.tape, k.output.trans h.output, Nat.le_trans h.size k.size, fun i hi ne => (k.block i (Nat.lt_of_lt_of_le hi h.size) ne).trans (h.block i hi ne)⟩
theorem But.set {T : Nat} {w w' : World} (h : But T w w') (i : Nat) (v : Value) : But T w (w'.setCell ⟨T, i, none⟩ v) :=
  ⟨h.os, h.tape, h.output, by rw [show (w'.setCell ⟨T, i, none⟩ v).heap.size = w'.heap.size by simp [World.setCell]]; exact h.size, fun k hk ne => (Below.heap_setCell _ _ _ _ (by show k ≠ T; exact ne)).trans (h.block k hk ne)⟩
theorem But.below {T : Nat} {w w' w2 : World} (h : But T w w') (k : Below w'.heap.size w' w2) : But T w w2 := ⟨k.os.trans h.os, k.tape.trans h.tape, k.output.trans h.output, Nat.le_trans h.size k.size, fun i hi ne => (k.block i (Nat.lt_of_lt_of_le hi h.size)).trans (h.block i hi ne)⟩
theorem But.of {T : Nat} {w w' : World} (k : Below w.heap.size w w') : But T w w' := (But.refl T w).below k
theorem But.drew {T : Nat} {w w' : World} (h : But T w w') : But T w w'.drew := ⟨h.os, h.tape, h.output, h.size, h.block⟩
theorem But.cell {T : Nat} {w w' : World} (h : But T w w') {a : Addr} (hl : a.block < w.heap.size) (ne : a.block ≠ T) : w'.cell? a = w.cell? a := World.cell?_of_block (h.block _ hl ne)
theorem But.six {T : Nat} {w w' : World} (h : But T w w') (i : Nat) (e : Ev) : But T w (sw6 w' T i e) := (((((h.set _ _).set _ _).set _ _).set _ _).set _ _).set _ _
theorem lenE_c (v : Option Addr) (n cap : Nat) (w : World) : Calls Try.prog 51 #[.slice v n cap] w fun e w' => e = .returned (.int .i64 (n : Int)) ∧ w' = w := by
  go_enter Try.func51, Try.ntmps51
  go_wp2
  go_ret
  exact ⟨rfl, rfl⟩
set_option maxHeartbeats 4000000 in
theorem less_c (B gb cap : Nat) (l : List Ev) (i k : Nat) (w : World) (h : EvR B w gb cap l) (hi : i < l.length) (hk : k < l.length) (hn : l.length ≤ 4611686018427387904) : Calls Try.prog 52 #[.slice (some ⟨gb, 0, none⟩) l.length cap, .int .i64 (i : Int), .int .i64 (k : Int)] w fun e w' => e = .returned (.bool (decide (lt (g l i) (g l k)))) ∧ Below w.heap.size w w' := by
  have HO : Hid (∀ a b W, Calls Try.prog 54 #[evG a, evG b] W fun e w' => e = .returned (.int .i64 (ord a b)) ∧ Below W.heap.size W w') := order_c
  obtain ⟨a0, a1, a2, a3, a4, a5⟩ := h.cells i hi
  obtain ⟨b0, b1, b2, b3, b4, b5⟩ := h.cells k hk
  have HD : Hid (decide (lt (g l i) (g l k)) = decide (ord (g l i) (g l k) < 0)) := by show _ = _; rw [decide_eq_decide]; exact (ord_lt _ _).symm
  have hl := h.lt
  clear h
  generalize g l i = a at a0 a1 a2 a3 a4 a5 HD ⊢
  generalize g l k = b at b0 b1 b2 b3 b4 b5 HD ⊢
  rw [HD.out]
  clear HD
  generalize l.length = n at hi hk hn ⊢
  have i1 : (0 : Int) ≤ (i : Int) := by omega
  have i2 : (i : Int) < (n : Int) := by omega
  have k1 : (0 : Int) ≤ (k : Int) := by omega
  have k2 : (k : Int) < (n : Int) := by omega
  have HR := HO.out a b w.drew
  unfold evG at HR
  have HR' : Hid (Calls Try.prog 54 #[.agg #[.int .i64 a.t, .int .i64 a.nd, .string a.v, .int .i64 a.fr, .int .i64 a.sq, .bool a.an], .agg #[.int .i64 b.t, .int .i64 b.nd, .string b.v, .int .i64 b.fr, .int .i64 b.sq, .bool b.an]] w.drew fun e w' => e = .returned (.int .i64 (ord a b)) ∧ Below w.drew.heap.size w.drew w') := HR
  clear HR HO
  generalize ord a b = z at HR' ⊢
  go_enter Try.func52, Try.ntmps52
  go_wp2
  go_region_with (first
    | (go_at_call 54; refine HR'.out.mono ?_; rintro e w' ⟨rfl, hb⟩))
  all_goals (go_wp2; go_ret; exact ⟨rfl, (Below.refl _ w).drew.trans hb⟩)
set_option maxHeartbeats 4000000 in
theorem swap_ne (B gb cap : Nat) (l : List Ev) (i k : Nat) (w : World) (h : EvR B w gb cap l) (hi : i < l.length) (hk : k < l.length) (hik : i ≠ k) : Calls Try.prog 53 #[.slice (some ⟨gb, 0, none⟩) l.length cap, .int .i64 (i : Int), .int .i64 (k : Int)] w fun e w' => e = .returned (.tuple #[]) ∧ EvR B w' gb cap (swp l i k) ∧ But gb w w' := by
  obtain ⟨a0, a1, a2, a3, a4, a5⟩ := h.cells i hi
  obtain ⟨b0, b1, b2, b3, b4, b5⟩ := h.cells k hk
  have hl := h.lt
  have f0 := h.frozen (i * 6)
  have f1 := h.frozen (i * 6 + 1)
  have f2 := h.frozen (i * 6 + 2)
  have f3 := h.frozen (i * 6 + 3)
  have f4 := h.frozen (i * 6 + 4)
  have f5 := h.frozen (i * 6 + 5)
  have k0 := h.frozen (k * 6)
  have k1 := h.frozen (k * 6 + 1)
  have k2 := h.frozen (k * 6 + 2)
  have k3 := h.frozen (k * 6 + 3)
  have k4 := h.frozen (k * 6 + 4)
  have k5 := h.frozen (k * 6 + 5)
  have HE : Hid (EvR B (sw6 (sw6 w gb i (g l k)) gb k (g l i)) gb cap (swp l i k)) := (h.set i hi _).set k (by simpa using hk) _
  clear h
  have i1 : (0 : Int) ≤ (i : Int) := by omega
  have i2 : (i : Int) < (l.length : Int) := by omega
  have k1' : (0 : Int) ≤ (k : Int) := by omega
  have k2' : (k : Int) < (l.length : Int) := by omega
  have HG : Hid (But gb w (sw6 (sw6 w gb i (g l k)) gb k (g l i))) := ((But.refl gb w).six _ _).six _ _
  generalize swp l i k = l' at HE ⊢
  unfold sw6 at HE HG
  generalize g l i = a at a0 a1 a2 a3 a4 a5 HE HG ⊢
  generalize g l k = b at b0 b1 b2 b3 b4 b5 HE HG ⊢
  generalize l.length = n at *
  go_enter Try.func53, Try.ntmps53
  go_region
  all_goals (go_end0; exact ⟨rfl, HE.out.drew, HG.out.drew⟩)
set_option maxHeartbeats 4000000 in
theorem swap_eq (B gb cap : Nat) (l : List Ev) (i : Nat) (w : World) (h : EvR B w gb cap l) (hi : i < l.length) : Calls Try.prog 53 #[.slice (some ⟨gb, 0, none⟩) l.length cap, .int .i64 (i : Int), .int .i64 (i : Int)] w fun e w' => e = .returned (.tuple #[]) ∧ EvR B w' gb cap (swp l i i) ∧ But gb w w' := by
  obtain ⟨a0, a1, a2, a3, a4, a5⟩ := h.cells i hi
  have hl := h.lt
  have f0 := h.frozen (i * 6)
  have f1 := h.frozen (i * 6 + 1)
  have f2 := h.frozen (i * 6 + 2)
  have f3 := h.frozen (i * 6 + 3)
  have f4 := h.frozen (i * 6 + 4)
  have f5 := h.frozen (i * 6 + 5)
  have HE : Hid (EvR B (sw6 (sw6 w gb i (g l i)) gb i (g l i)) gb cap (swp l i i)) := (h.set i hi _).set i (by simpa using hi) _
  clear h
  have i1 : (0 : Int) ≤ (i : Int) := by omega
  have i2 : (i : Int) < (l.length : Int) := by omega
  have HG : Hid (But gb w (sw6 (sw6 w gb i (g l i)) gb i (g l i))) := ((But.refl gb w).six _ _).six _ _
  generalize swp l i i = l' at HE ⊢
  unfold sw6 at HE HG
  generalize g l i = a at a0 a1 a2 a3 a4 a5 HE HG ⊢
  generalize l.length = n at *
  go_enter Try.func53, Try.ntmps53
  go_region
  all_goals (go_end0; exact ⟨rfl, HE.out.drew, HG.out.drew⟩)
theorem swap_c (B gb cap : Nat) (l : List Ev) (i k : Nat) (w : World) (h : EvR B w gb cap l) (hi : i < l.length) (hk : k < l.length) : Calls Try.prog 53 #[.slice (some ⟨gb, 0, none⟩) l.length cap, .int .i64 (i : Int), .int .i64 (k : Int)] w fun e w' => e = .returned (.tuple #[]) ∧ EvR B w' gb cap (swp l i k) ∧ But gb w w' := by
  by_cases e : i = k
  · subst e; exact swap_eq B gb cap l i w h hi
  · exact swap_ne B gb cap l i k w h hi hk e
end Go.Proofs.Ytfjkhcpneehdjaa
