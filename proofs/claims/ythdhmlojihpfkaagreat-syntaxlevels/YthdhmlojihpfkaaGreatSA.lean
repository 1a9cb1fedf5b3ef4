/- Layer 4 of the program: tokens one by one. -/
import Derived.Test.YthdhmlojihpfkaaGreatGX
import Derived.Test.YthdhmlojihpfkaaGreatGM
import Derived.Recover
import Derived.Defers
namespace Go.Proofs.YthdhmlojihpfkaaGreat
open Go.RowKit Lg
set_option linter.unusedVariables false
set_option linter.unusedSimpArgs false

/-- reading is given up: 40 a token that can not follow, 41 too many within one another -/
def pnW (p : Int) : List PanicEntry := [{ v := .iface 86 (.int .i64 p), recovered := false }]
def pnD (p : Int) : List PanicEntry := [{ v := .iface 87 (.int .i64 p), recovered := false }]
def pnS (p : Nat) (c : Int) : List PanicEntry := if c = 41 then pnD p else pnW p
def tkV (t : Tok) : Value := .agg #[.int .i64 t.k, .string (S t.x), .int .i64 t.p]
/-- all blocks but one are as they were -/
structure Kp (b : Nat) (w w' : World) : Prop where
  os : w'.os = w.os
  tape : w'.tape = w.tape
  output : w'.output = w.output
  size : w.heap.size ≤ w'.heap.size
  block : ∀ k, k < w.heap.size → k ≠ b → w'.heap[k]? = w.heap[k]?
theorem Kp.refl (b : Nat) (w : World) : Kp b w w := ⟨rfl, rfl, rfl, Nat.le_refl _, fun _ _ _ => rfl⟩
theorem Kp.trans {b : Nat} {x y z : World} (h : Kp b x y) (k : Kp b y z) : Kp b x z :=
  ⟨k.os.trans h.os, k.tape.trans h.tape, k.output.trans h.output, Nat.le_trans h.size k.size, fun i hi hb => (k.block i (Nat.lt_of_lt_of_le hi h.size) hb).trans (h.block i hi hb)⟩
theorem Kp.of {b : Nat} {w w' : World} (h : Below w.heap.size w w') : Kp b w w' := ⟨h.os, h.tape, h.output, h.size, fun k hk _ => h.block k hk⟩
theorem Kp.set {b j : Nat} {w : World} {y : Value} : Kp b w (w.setCell ⟨b, j, none⟩ y) := ⟨rfl, rfl, rfl, by simp [World.setCell], fun k _ h => Below.heap_setCell _ _ _ _ h⟩
/-- the parser's block, and the tokens -/
structure St (b g cap : Nat) (l : List Tok) (k : Nat) (w : World) : Prop where
  blk : w.heap[b]? = some (.cells #[.slice (some ⟨g, 0, none⟩) l.length cap, .int .i64 k] 58 (0, 0))
  ne : g ≠ b
  lt : g < w.heap.size
  cap : l.length ≤ cap
  len : l.length ≤ 100000
  k : k < l.length
  last : (tk l (l.length - 1)).k = 6
  src : ∀ j u, (tcells l)[j]? = some u → w.cell? ⟨g, j, none⟩ = some u
theorem bxS {w : World} {o : Obj} : Below w.heap.size w (w.alloc o) := belA (Below.refl _ _) _
theorem St.blt {b g cap k : Nat} {l : List Tok} {w : World} (h : St b g cap l k w) : b < w.heap.size := heap_lt h.blk
theorem St.below {b g cap k : Nat} {l : List Tok} {w w' : World} (h : St b g cap l k w) (hb : Below w.heap.size w w') : St b g cap l k w' :=
  ⟨(hb.block b h.blt).trans h.blk, h.ne, Nat.lt_of_lt_of_le h.lt hb.size, h.cap, h.len, h.k, h.last, fun j u hu => by rw [hb.cell (p := ⟨g, j, none⟩) h.lt]; exact h.src j u hu⟩
theorem St.set {b g cap k : Nat} {l : List Tok} {w : World} (h : St b g cap l k w) (hk : k + 1 < l.length) (y : Value) (hy : y = .int .i64 (k + 1 : Nat)) : St b g cap l (k + 1) (w.setCell ⟨b, 1, none⟩ y) := by
  subst hy
  refine ⟨?_, h.ne, by simp [World.setCell]; exact h.lt, h.cap, h.len, hk, h.last, fun j u hu => ?_⟩
  · simp only [World.setCell]; rw [Array.getElem?_modify, if_pos rfl, h.blk]; rfl
  · rw [World.cell?_of_block (w := w) (a := ⟨g, j, none⟩) (Below.heap_setCell _ _ _ _ h.ne)]; exact h.src j u hu
theorem St.at_ {b g cap k : Nat} {l : List Tok} {w : World} (h : St b g cap l k w) : w.cell? ⟨b, 0, none⟩ = some (.slice (some ⟨g, 0, none⟩) l.length cap) ∧ w.cell? ⟨b, 1, none⟩ = some (.int .i64 k) ∧ (∀ j, w.frozen? ⟨b, j, none⟩ = false) :=
  ⟨by rw [Lib.cell_of_heap h.blk]; rfl, by rw [Lib.cell_of_heap h.blk]; rfl, fun j => Lib.frozen_of_heap h.blk j⟩
theorem St.tok {b g cap k : Nat} {l : List Tok} {w : World} (h : St b g cap l k w) : w.cell? ⟨g, k * 3, none⟩ = some (.int .i64 (tk l k).k) ∧ w.cell? ⟨g, k * 3 + 1, none⟩ = some (.string (S (tk l k).x)) ∧ w.cell? ⟨g, k * 3 + 2, none⟩ = some (.int .i64 (tk l k).p) := by
  have e : l[k]? = some (tk l k) := by unfold tk; rw [List.getD_eq_getElem?_getD, List.getElem?_eq_getElem h.k]; rfl
  obtain ⟨a, b, c⟩ := tcell_at e
  exact ⟨h.src _ _ a, h.src _ _ b, h.src _ _ c⟩
theorem St.next {b g cap k : Nat} {l : List Tok} {w : World} (h : St b g cap l k w) (hk : (tk l k).k ≠ 6) : k + 1 < l.length := by
  have := h.k
  rcases Nat.lt_or_ge (k + 1) l.length with h1 | h1
  · exact h1
  · exact absurd (by rw [show k = l.length - 1 by omega]; exact h.last) hk
theorem fx_kind {l : List Tok} {k : Nat} (h : fx l k ≠ []) : (tk l k).k ≠ 6 := by
  intro e
  refine h ?_
  unfold fx fixL
  rw [if_neg (by rw [e]; rintro (⟨h1, _⟩ | ⟨h1, _⟩) <;> exact absurd h1 (by decide))]

theorem isW_cases {x : ByteArray} (h : isW (L x) = true) : x = ⟨#[109, 111, 100, 117, 108, 101]⟩ ∨ x = ⟨#[101, 110, 100, 109, 111, 100, 117, 108, 101]⟩ ∨ x = ⟨#[105, 110, 112, 117, 116]⟩ ∨ x = ⟨#[111, 117, 116, 112, 117, 116]⟩ ∨ x = ⟨#[114, 101, 103]⟩ ∨ x = ⟨#[119, 105, 114, 101]⟩ ∨ x = ⟨#[112, 97, 114, 97, 109, 101, 116, 101, 114]⟩ ∨ x = ⟨#[108, 111, 99, 97, 108, 112, 97, 114, 97, 109]⟩ ∨ x = ⟨#[97, 115, 115, 105, 103, 110]⟩ ∨ x = ⟨#[97, 108, 119, 97, 121, 115]⟩ ∨ x = ⟨#[112, 111, 115, 101, 100, 103, 101]⟩ ∨ x = ⟨#[98, 101, 103, 105, 110]⟩ ∨ x = ⟨#[101, 110, 100]⟩ ∨ x = ⟨#[105, 102]⟩ ∨ x = ⟨#[101, 108, 115, 101]⟩ ∨ x = ⟨#[99, 97, 115, 101]⟩ ∨ x = ⟨#[101, 110, 100, 99, 97, 115, 101]⟩ ∨ x = ⟨#[100, 101, 102, 97, 117, 108, 116]⟩ ∨ x = ⟨#[102, 111, 114]⟩ := by
  have hx : x = S (L x) := (S_L x).symm
  have hm : L x ∈ wordsL := List.contains_iff_mem.1 h
  simp only [wordsL, List.mem_cons, List.not_mem_nil, or_false] at hm
  rcases hm with h | h | h | h | h | h | h | h | h | h | h | h | h | h | h | h | h | h | h <;> (rw [h] at hx; subst hx; simp [S])
theorem isW_no {x : ByteArray} (h : isW (L x) = false) : (x.toList == [109, 111, 100, 117, 108, 101]) = false ∧ (x.toList == [101, 110, 100, 109, 111, 100, 117, 108, 101]) = false ∧ (x.toList == [105, 110, 112, 117, 116]) = false ∧ (x.toList == [111, 117, 116, 112, 117, 116]) = false ∧ (x.toList == [114, 101, 103]) = false ∧ (x.toList == [119, 105, 114, 101]) = false ∧ (x.toList == [112, 97, 114, 97, 109, 101, 116, 101, 114]) = false ∧ (x.toList == [108, 111, 99, 97, 108, 112, 97, 114, 97, 109]) = false ∧ (x.toList == [97, 115, 115, 105, 103, 110]) = false ∧ (x.toList == [97, 108, 119, 97, 121, 115]) = false ∧ (x.toList == [112, 111, 115, 101, 100, 103, 101]) = false ∧ (x.toList == [98, 101, 103, 105, 110]) = false ∧ (x.toList == [101, 110, 100]) = false ∧ (x.toList == [105, 102]) = false ∧ (x.toList == [101, 108, 115, 101]) = false ∧ (x.toList == [99, 97, 115, 101]) = false ∧ (x.toList == [101, 110, 100, 99, 97, 115, 101]) = false ∧ (x.toList == [100, 101, 102, 97, 117, 108, 116]) = false ∧ (x.toList == [102, 111, 114]) = false := by
  rw [toL]
  have hm : ¬ L x ∈ wordsL := fun e => by rw [isW, List.contains_iff_mem.2 e] at h; cases h
  simp only [wordsL, List.mem_cons, List.not_mem_nil, or_false, not_or] at hm
  simpa using hm
set_option maxHeartbeats 2000000 in
theorem isWord_c (x : ByteArray) (w : World) : Calls Tryz.prog 96 #[.string x] w fun e w' => e = .returned (.bool (isW (L x))) ∧ w' = w := by
  cases h : isW (L x) with
  | true =>
    rcases isW_cases h with rfl | rfl | rfl | rfl | rfl | rfl | rfl | rfl | rfl | rfl | rfl | rfl | rfl | rfl | rfl | rfl | rfl | rfl | rfl
    all_goals
      clear h
      go_enter Tryz.func96, Tryz.ntmps96
      go_wp2
      go_ret
      exact ⟨rfl, rfl⟩
  | false =>
    obtain ⟨h0, h1, h2, h3, h4, h5, h6, h7, h8, h9, h10, h11, h12, h13, h14, h15, h16, h17, h18⟩ := isW_no h
    clear h
    go_enter Tryz.func96, Tryz.ntmps96
    go_wp2
    go_ret
    exact ⟨rfl, rfl⟩
set_option maxHeartbeats 1000000 in
theorem fixed_c (t : Tok) (w : World) : Calls Tryz.prog 87 #[tkV t] w fun e w' => e = .returned (.string (S (fixL t))) ∧ Below w.heap.size w w' := by
  obtain ⟨k, x, p⟩ := t
  have HW := fun w => isWord_c (S x) w
  rw [L_S] at HW
  obtain ⟨sx, hsx⟩ : ∃ sx, sx = S x := ⟨_, rfl⟩
  unfold tkV fixL
  simp only
  rw [← hsx] at HW ⊢
  have e0 : (⟨#[]⟩ : ByteArray) = S [] := rfl
  have HX : Hid _ := hsx
  clear hsx
  by_cases h1 : k = 1
  · subst h1
    cases hw : isW x with
    | true =>
      rw [hw] at HW
      rw [if_pos (Or.inl ⟨rfl, rfl⟩), ← HX.out]
      clear hw e0
      go_enter Tryz.func87, Tryz.ntmps87
      go_wp2_with (first | (go_at_call 96; refine (HW _).mono ?_; rintro e w' ⟨rfl, hw⟩; have hw2 := hw.symm; subst hw2))
      go_ret
      exact ⟨rfl, bxS⟩
    | false =>
      rw [hw] at HW
      rw [if_neg (by simp), ← e0]
      clear hw e0
      go_enter Tryz.func87, Tryz.ntmps87
      go_wp2_with (first | (go_at_call 96; refine (HW _).mono ?_; rintro e w' ⟨rfl, hw⟩; have hw2 := hw.symm; subst hw2))
      go_ret
      exact ⟨rfl, bxS⟩
  · have b1 : (k == 1) = false := by simpa using h1
    by_cases h3 : k = 3
    · subst h3
      cases hw : isW x with
      | true =>
        rw [hw] at HW
        rw [if_neg (by simp), ← e0]
        clear hw e0 h1
        go_enter Tryz.func87, Tryz.ntmps87
        go_wp2_with (first | (go_at_call 96; refine (HW _).mono ?_; rintro e w' ⟨rfl, hw⟩; have hw2 := hw.symm; subst hw2))
        go_ret
        exact ⟨rfl, bxS⟩
      | false =>
        rw [hw] at HW
        rw [if_pos (Or.inr ⟨rfl, rfl⟩), ← HX.out]
        clear hw e0 h1
        go_enter Tryz.func87, Tryz.ntmps87
        go_wp2_with (first | (go_at_call 96; refine (HW _).mono ?_; rintro e w' ⟨rfl, hw⟩; have hw2 := hw.symm; subst hw2))
        go_ret
        exact ⟨rfl, bxS⟩
    · have b3 : (k == 3) = false := by simpa using h3
      rw [if_neg (by rintro (⟨e, _⟩ | ⟨e, _⟩); exact h1 e; exact h3 e), ← e0]
      clear e0 HW
      go_enter Tryz.func87, Tryz.ntmps87
      go_wp2_with fail
      go_ret
      exact ⟨rfl, bxS⟩
set_option maxHeartbeats 1000000 in
theorem isName_c (t : Tok) (w : World) : Calls Tryz.prog 84 #[tkV t] w fun e w' => e = .returned (.bool (nmB t)) ∧ Below w.heap.size w w' := by
  obtain ⟨k, x, p⟩ := t
  have HW := fun w => isWord_c (S x) w
  rw [L_S] at HW
  obtain ⟨sx, hsx⟩ : ∃ sx, sx = S x := ⟨_, rfl⟩
  unfold tkV nmB
  simp only
  rw [← hsx] at HW ⊢
  clear hsx
  by_cases h1 : k = 1
  · subst h1
    cases hw : isW x <;> rw [hw] at HW <;> clear hw
    all_goals
      go_enter Tryz.func84, Tryz.ntmps84
      go_wp2_with (first | (go_at_call 96; refine (HW _).mono ?_; rintro e w' ⟨rfl, hw⟩; have hw2 := hw.symm; subst hw2))
      go_ret
      exact ⟨rfl, bxS⟩
  · have b1 : (k == 1) = false := by simpa using h1
    go_enter Tryz.func84, Tryz.ntmps84
    go_wp2_with fail
    go_ret
    exact ⟨by rw [b1]; rfl, bxS⟩
end Go.Proofs.YthdhmlojihpfkaaGreat
