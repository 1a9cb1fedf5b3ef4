/- Texts KD KE, joined: what each part says stands ahead of it. -/
import Derived.Test.YtokepgnnepjiaaaGreatGKa
/- The reference's operated: a node's width by what goes in. -/
namespace Go.Proofs.YtokepgnnepjiaaaGreat
set_option maxRecDepth 100000
open Go.RowKit Lg Nl Go.Maps
set_option linter.unusedVariables false
set_option linter.unusedSimpArgs false

theorem all_take {α : Type} {p : α → Bool} {l : List α} (h : l.all p = true) (j : Nat) : (l.take j).all p = true := by
  rw [List.all_eq_true] at h ⊢
  exact fun x hx => h x (List.mem_of_mem_take hx)
theorem in_at {n : Nat} {ins : List Int} (h : ins.all (inB n) = true) {j : Nat} (hj : j < ins.length) : ∃ i : Nat, ins[j] = (i : Int) ∧ i < n := by
  rw [List.all_eq_true] at h
  have := h ins[j] (List.getElem_mem hj)
  simp [inB] at this
  exact ⟨ins[j].toNat, by omega, by omega⟩
theorem wide_at {l : List Nd} (h : l.all wideB = true) {i : Nat} (hi : i < l.length) : 1 ≤ l[i].wd ∧ l[i].wd ≤ 256 := by
  rw [List.all_eq_true] at h
  have := h l[i] (List.getElem_mem hi)
  simpa [wideB] using this
theorem wdAt_bd {l : List Nd} (h : l.all wideB = true) {z : Int} (hz : inB l.length z = true) : 1 ≤ wdAt l z ∧ wdAt l z ≤ 256 := by
  simp [inB] at hz
  unfold wdAt
  rw [ndAt_eq (by omega)]
  exact wide_at h _
theorem wdAt_eq {l : List Nd} {i : Nat} (hi : i < l.length) : wdAt l (i : Int) = l[i].wd := by unfold wdAt; rw [Int.toNat_natCast, ndAt_eq hi]
theorem sumI_cons (z : Int) (ws : List Int) : sumI (z :: ws) = z + sumI ws := by
  have h : ∀ (ws : List Int) (a : Int), ws.foldl (· + ·) a = a + ws.foldl (· + ·) 0 := by
    intro ws
    induction ws with
    | nil => intro a; simp
    | cons y r ih => intro a; simp only [List.foldl_cons]; rw [ih (a + y), ih (0 + y)]; omega
  unfold sumI
  rw [List.foldl_cons, h]; omega
theorem sum_bd (l : List Nd) : ∀ (ins : List Int), l.all wideB = true → ins.all (inB l.length) = true → 0 ≤ sumI (wsOf l ins) ∧ sumI (wsOf l ins) ≤ 256 * ins.length
  | [], _, _ => by simp [wsOf, sumI]
  | z :: r, hw, h => by
    rw [List.all_cons, Bool.and_eq_true] at h
    have ih := sum_bd l r hw h.2
    have := wdAt_bd hw h.1
    show 0 ≤ sumI (wdAt l z :: wsOf l r) ∧ sumI (wdAt l z :: wsOf l r) ≤ _
    rw [sumI_cons, List.length_cons]
    omega
theorem own_last {w : World} {B n g cap : Nat} {l : List Int} {z : Int} (h : w.ownsRow B 3 1 (.slice (some ⟨g, 0, none⟩) (n + 1) cap) (n + 1) (iC (l ++ [z]))) (hl : l.length = n) : w.cell? ⟨g, n, none⟩ = some (.int .i64 z) := by
  have := own_cell h n (by simp [hl])
  rw [this]
  congr 2
  subst hl
  simp
theorem ws_bd {l : List Nd} {ins : List Int} (hw : l.all wideB = true) (hin : ins.all (inB l.length) = true) {i : Nat} (hi : i < ins.length) : 1 ≤ wn (wsOf l ins) i ∧ wn (wsOf l ins) i ≤ 256 := by
  unfold wn wsOf
  rw [List.getD_eq_getElem?_getD, List.getElem?_map, List.getElem?_eq_getElem hi]
  show 1 ≤ wdAt l ins[i] ∧ wdAt l ins[i] ≤ 256
  rw [List.all_eq_true] at hin
  exact wdAt_bd hw (hin _ (List.getElem_mem hi))
theorem opW_many (op hi lo sum w0 w1 w2 : Int) {n : Int} (h : 4 ≤ n) : opW op hi lo n sum w0 w1 w2 = if op = 5 ∧ n ≤ 256 then sum else -1 := by
  have n1 : ¬ n = 1 := by omega
  have n2 : ¬ n = 2 := by omega
  have n3 : ¬ n = 3 := by omega
  have n4 : 1 ≤ n := by omega
  by_cases h5 : op = 5
  · subst h5
    simp [opW, n4]
  · simp [opW, n1, n2, n3, h5]
theorem opW_none (op hi lo sum w0 w1 w2 : Int) {n : Int} (h : n = 0) : opW op hi lo n sum w0 w1 w2 = -1 := by
  subst h
  simp [opW]
theorem opW_one (op hi lo sum w0 w1 w2 : Int) {n : Int} (h : n = 1) : opW op hi lo n sum w0 w1 w2 = if op = 7 ∨ op = 9 then w0 else if op = 8 ∨ op = 10 ∨ op = 11 ∨ op = 12 then 1 else if op = 4 then (if 0 ≤ lo ∧ lo ≤ hi ∧ hi < w0 then hi - lo + 1 else -1) else if op = 5 then sum else -1 := by
  subst h
  unfold opW
  repeat' split
  all_goals first | rfl | omega
theorem opW_two (op hi lo sum w0 w1 w2 : Int) {n : Int} (h : n = 2) : opW op hi lo n sum w0 w1 w2 = if op = 13 ∨ op = 14 ∨ op = 23 ∨ op = 25 ∨ op = 24 then (if w0 = w1 then w0 else -1) else if op = 15 ∨ op = 16 then w0 else if op = 17 ∨ op = 18 ∨ op = 19 ∨ op = 20 ∨ op = 21 ∨ op = 22 then (if w0 = w1 then 1 else -1) else if op = 26 ∨ op = 27 ∨ op = 3 then 1 else if op = 5 then sum else -1 := by
  subst h
  unfold opW
  repeat' split
  all_goals first | rfl | omega
theorem opW_three (op hi lo sum w0 w1 w2 : Int) {n : Int} (h : n = 3) : opW op hi lo n sum w0 w1 w2 = if op = 6 then (if w1 = w2 then w1 else -1) else if op = 5 then sum else -1 := by
  subst h
  unfold opW
  repeat' split
  all_goals first | rfl | omega
theorem belDN {B : Nat} {w w' : World} (h : Below B w w') (n : Nat) : Below B w (w'.drewN n) := ⟨h.os, h.tape, h.output, h.size, h.block⟩
theorem own_pos {w : World} {B e z n cap : Nat} {ao : Option Addr} {xs : List Value} (h : w.ownsRow B e z (.slice ao n cap) n xs) (hn : 0 < n) : ∃ g, ao = some ⟨g, 0, none⟩ := by
  rcases h.2 with ⟨_, h2⟩ | ⟨g, cap', cur, hv, _⟩
  · omega
  · injection hv with e1; exact ⟨g, e1⟩
theorem own_wn {w : World} {B n g cap : Nat} {ws : List Int} (h : w.ownsRow B 3 1 (.slice (some ⟨g, 0, none⟩) n cap) n (iC ws)) (j : Nat) (hj : j < n) : w.cell? ⟨g, j, none⟩ = some (.int .i64 (wn ws j)) := by
  have hl : ws.length = n := by simpa [iC] using h.1
  rw [own_cell h j (by omega)]
  unfold wn
  rw [List.getD_eq_getElem?_getD, List.getElem?_eq_getElem (by omega)]
  rfl
end Go.Proofs.YtokepgnnepjiaaaGreat

/- The reference's node: may a node be? -/
namespace Go.Proofs.YtokepgnnepjiaaaGreat
set_option maxRecDepth 100000
open Go.RowKit Lg Nl Go.Maps
set_option linter.unusedVariables false
set_option linter.unusedSimpArgs false

/-- the first three widths, as far as they were read -/
def nw (ws : List Int) (i q : Nat) : Int := if q < i then wn ws q else 0
def nodeA (x : Nd) (ws : List Int) (m a0 a1 a2 : Int) : Bool :=
  if x.k = 1 then decide (m = 0) && vec x.vl && decide ((x.vl.length : Int) = x.wd)
  else if x.k = 2 then decide (m = 0)
  else if x.k = 3 then decide (opWs x ws = x.wd)
  else if x.k = 4 then decide (m = 3 ∧ a1 = x.wd ∧ a2 = x.wd)
  else if x.k = 5 then decide (m = 2 ∧ a0 = a1 ∧ x.wd = 1)
  else if x.k = 6 then decide (m = 1)
  else if x.k = 7 then decide (m = 2 ∧ a1 = x.wd)
  else if x.k = 8 then decide (m = 1 ∧ a0 = x.wd ∧ 1 ≤ x.tm ∧ x.tm ≤ 1048576)
  else false
theorem nodeA_eq (x : Nd) (ws : List Int) (t : Nat) (ht : t = min ws.length 3) : nodeB x ws = nodeA x ws ws.length (nw ws t 0) (nw ws t 1) (nw ws t 2) := by
  unfold nodeB nodeA nw
  repeat' split
  all_goals first
    | rfl
    | (rw [decide_eq_decide]; omega)
    | (congr 1; rw [decide_eq_decide]; omega)
    | (congr 2; rw [decide_eq_decide]; omega)
theorem nw_step (ws : List Int) (i q : Nat) : nw ws (i + 1) q = if q = i then wn ws i else nw ws i q := by
  unfold nw
  by_cases h : q = i
  · subst h; simp
  · rw [if_neg h]
    by_cases h2 : q < i
    · rw [if_pos (by omega), if_pos h2]
    · rw [if_neg (by omega), if_neg h2]
theorem ksd {w : World} {b o b' j : Nat} {y : Value} {v : Option Value} (hne : b ≠ b') (h : w.cell? ⟨b, o, none⟩ = v) : (w.setCell ⟨b', j, none⟩ y).drew.cell? ⟨b, o, none⟩ = v := by
  show (w.setCell ⟨b', j, none⟩ y).cell? ⟨b, o, none⟩ = v
  rw [World.cell?_of_block (w := w) (a := ⟨b, o, none⟩) (Below.heap_setCell _ _ _ _ hne)]; exact h
theorem wn_at {l : List Nd} {ins ws : List Int} (h : ws = wsOf l ins) {j : Nat} (hj : j < ins.length) : wn ws j = wdAt l ins[j] := by
  subst h
  unfold wn wsOf
  rw [List.getD_eq_getElem?_getD, List.getElem?_map, List.getElem?_eq_getElem hj]
  rfl
theorem rowCast {w : World} {b b' n : Nat} {t : TypeId} {f : Nat → Value} (h : w.rowIs b t n f) (e : b = b') : w.rowIs b' t n f := e ▸ h
theorem S2.setB {w W : World} {bx rs : Obj} (h : S2 w bx rs W) {b j : Nat} {v : Value} (hb : w.heap.size + 2 ≤ b) : S2 w bx rs (W.setCell ⟨b, j, none⟩ v) :=
  ⟨h.bel.setCell (by show w.heap.size ≤ b; omega) _, (Below.heap_setCell _ _ _ _ (by show w.heap.size ≠ b; omega)).trans h.x, (Below.heap_setCell _ _ _ _ (by show w.heap.size + 1 ≠ b; omega)).trans h.r⟩

end Go.Proofs.YtokepgnnepjiaaaGreat
