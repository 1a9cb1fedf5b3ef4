/- Layer 4 of the program: the token that comes next, and going past it. -/
import Derived.Test.YthdhmlojihpfkaaGreatSA
namespace Go.Proofs.YthdhmlojihpfkaaGreat
open Go.RowKit Lg
set_option linter.unusedVariables false
set_option linter.unusedSimpArgs false

theorem new_tok (w : World) (a b c : Value) (t : TypeId) : (w.alloc (.cells #[a, b, c] t)).cell? ⟨w.heap.size, 0, none⟩ = some a ∧ (w.alloc (.cells #[a, b, c] t)).cell? ⟨w.heap.size, 1, none⟩ = some b ∧ (w.alloc (.cells #[a, b, c] t)).cell? ⟨w.heap.size, 2, none⟩ = some c :=
  ⟨by rw [World.cell?_alloc_at _ _ _ _ rfl]; rfl, by rw [World.cell?_alloc_at _ _ _ _ rfl]; rfl, by rw [World.cell?_alloc_at _ _ _ _ rfl]; rfl⟩
set_option maxRecDepth 100000 in
set_option maxHeartbeats 2000000 in
theorem pHere {b g cap k : Nat} {l : List Tok} {w : World} (h : St b g cap l k w) : Calls Tryz.prog 53 #[.pointer (some ⟨b, 0, none⟩)] w fun e w' => e = .returned (tkV (tk l k)) ∧ Below w.heap.size w w' := by
  obtain ⟨c0, c1, cf⟩ := h.at_
  obtain ⟨d0, d1, d2⟩ := h.tok
  have hk := h.k
  have hlt := h.lt
  have hb := h.blt
  have hne := h.ne
  obtain ⟨n, hn⟩ : ∃ n, n = l.length := ⟨_, rfl⟩
  rw [← hn] at c0 hk
  obtain ⟨⟨kk, x, p⟩, ht⟩ : ∃ t, t = tk l k := ⟨_, rfl⟩
  rw [← ht] at d0 d1 d2 ⊢
  unfold tkV
  simp only at d0 d1 d2 ⊢
  obtain ⟨sx, hsx⟩ : ∃ sx, sx = S x := ⟨_, rfl⟩
  rw [← hsx] at d1 ⊢
  clear h hn ht hsx
  have hkI : (k : Int) < (n : Int) := by omega
  go_enter Tryz.func53, Tryz.ntmps53
  go_wp2
  go_region
  all_goals go_wp2
  all_goals go_region
  all_goals go_wp2
  all_goals
    refine bodyPost_ret (v := .agg #[.int .i64 kk, .string sx, .int .i64 p]) (by simp [results, Tryz.results53, go_sem]) rfl ?_
    exact ⟨rfl, bxS.drew.drew⟩
theorem str_ne {a : List UInt8} {x : ByteArray} (h : a ≠ L x) : ((S a).toList == x.toList) = false := by
  rw [toL, toL, L_S]; simpa using h
set_option maxHeartbeats 1000000 in
theorem pSees {b g cap k : Nat} {l : List Tok} {w : World} (h : St b g cap l k w) (x : ByteArray) : Calls Tryz.prog 70 #[.pointer (some ⟨b, 0, none⟩), .string x] w fun e w' => e = .returned (.bool (fx l k == L x)) ∧ Below w.heap.size w w' := by
  have HH := pHere h
  have HF := fun w => fixed_c (tk l k) w
  obtain ⟨t, ht⟩ : ∃ t, t = tkV (tk l k) := ⟨_, rfl⟩
  rw [← ht] at HH HF
  by_cases hx : fx l k = L x
  · have e1 : S (fixL (tk l k)) = x := by rw [show fixL (tk l k) = L x from hx, S_L]
    rw [e1] at HF
    have e2 : (fx l k == L x) = true := by rw [hx]; simp
    rw [e2]
    clear hx e1 e2 ht h
    go_enter Tryz.func70, Tryz.ntmps70
    go_wp2_with (first
      | (go_at_call 53; refine HH.mono ?_; rintro e w1 ⟨rfl, hb1⟩)
      | (go_at_call 87; refine (HF _).mono ?_; rintro e w2 ⟨rfl, hb2⟩))
    go_ret
    exact ⟨rfl, bel hb1 hb2⟩
  · have e1 := str_ne hx
    have e2 : (fx l k == L x) = false := by simpa using hx
    rw [e2]
    obtain ⟨y, hy⟩ : ∃ y, y = S (fixL (tk l k)) := ⟨_, rfl⟩
    rw [← hy] at HF
    replace e1 : (y.toList == x.toList) = false := by rw [hy]; exact e1
    clear hx e2 ht h hy
    go_enter Tryz.func70, Tryz.ntmps70
    go_wp2_with (first
      | (go_at_call 53; refine HH.mono ?_; rintro e w1 ⟨rfl, hb1⟩)
      | (go_at_call 87; refine (HF _).mono ?_; rintro e w2 ⟨rfl, hb2⟩))
    go_ret
    exact ⟨rfl, bel hb1 hb2⟩
theorem St.setR {b g cap k R j : Nat} {l : List Tok} {w : World} {y : Value} (h : St b g cap l k w) (h1 : R ≠ b) (h2 : R ≠ g) : St b g cap l k (w.setCell ⟨R, j, none⟩ y) :=
  ⟨(Below.heap_setCell _ _ _ _ (Ne.symm h1)).trans h.blk, h.ne, by simp [World.setCell]; exact h.lt, h.cap, h.len, h.k, h.last, fun i u hu => by rw [World.cell?_of_block (w := w) (a := ⟨g, i, none⟩) (Below.heap_setCell _ _ _ _ (Ne.symm h2))]; exact h.src i u hu⟩
theorem Kp.setR {b R j : Nat} {w w1 : World} {y : Value} (h : Kp b w w1) (hR : w.heap.size ≤ R) : Kp b w (w1.setCell ⟨R, j, none⟩ y) :=
  ⟨h.os, h.tape, h.output, by simp [World.setCell]; exact h.size, fun k hk hb => (Below.heap_setCell _ _ _ _ (show k ≠ R by omega)).trans (h.block k hk hb)⟩
theorem Kp.setb {b j : Nat} {w w1 : World} {y : Value} (h : Kp b w w1) : Kp b w (w1.setCell ⟨b, j, none⟩ y) := h.trans Kp.set
theorem Kp.alloc {b : Nat} {w w1 : World} {o : Obj} (h : Kp b w w1) : Kp b w (w1.alloc o) := h.trans (Kp.of bxS)
theorem Kp.drew {b : Nat} {w w1 : World} (h : Kp b w w1) : Kp b w w1.drew := h.trans (Kp.of belD)
/-- a result's block stays while others are called -/
theorem res_cells {w w1 : World} {a b c : Value} {t : TypeId} (h : Below (w.alloc (.cells #[a, b, c] t)).heap.size (w.alloc (.cells #[a, b, c] t)) w1) :
    w1.cell? ⟨w.heap.size, 0, none⟩ = some a ∧ w1.cell? ⟨w.heap.size, 1, none⟩ = some b ∧ w1.cell? ⟨w.heap.size, 2, none⟩ = some c ∧ (∀ j, w1.frozen? ⟨w.heap.size, j, none⟩ = false) ∧ w.heap.size < w1.heap.size := by
  have e : w1.heap[w.heap.size]? = some (.cells #[a, b, c] t (0, 0)) := (h.block w.heap.size (by simp)).trans (by show (w.heap.push _)[w.heap.size]? = _; simp)
  exact ⟨by rw [Lib.cell_of_heap e]; rfl, by rw [Lib.cell_of_heap e]; rfl, by rw [Lib.cell_of_heap e]; rfl, fun j => Lib.frozen_of_heap e j, heap_lt e⟩
theorem res_cellsK {w w1 : World} {bb : Nat} {a b c : Value} {t : TypeId} (h : Kp bb (w.alloc (.cells #[a, b, c] t)) w1) (hb : bb < w.heap.size) :
    w1.cell? ⟨w.heap.size, 0, none⟩ = some a ∧ w1.cell? ⟨w.heap.size, 1, none⟩ = some b ∧ w1.cell? ⟨w.heap.size, 2, none⟩ = some c ∧ (∀ j, w1.frozen? ⟨w.heap.size, j, none⟩ = false) ∧ w.heap.size < w1.heap.size := by
  have e : w1.heap[w.heap.size]? = some (.cells #[a, b, c] t (0, 0)) := (h.block w.heap.size (by simp) (by omega)).trans (by show (w.heap.push _)[w.heap.size]? = _; simp)
  exact ⟨by rw [Lib.cell_of_heap e]; rfl, by rw [Lib.cell_of_heap e]; rfl, by rw [Lib.cell_of_heap e]; rfl, fun j => Lib.frozen_of_heap e j, heap_lt e⟩
set_option maxRecDepth 100000 in
set_option maxHeartbeats 2000000 in
theorem pStep {b g cap k : Nat} {l : List Tok} {w : World} (h : St b g cap l k w) (hk : k + 1 < l.length) : Calls Tryz.prog 85 #[.pointer (some ⟨b, 0, none⟩)] w fun e w' => e = .returned (tkV (tk l k)) ∧ St b g cap l (k + 1) w' ∧ Kp b w w' := by
  have HH := fun w' (hb : Below w.heap.size w w') => pHere (h.below hb)
  have hl := h.len
  obtain ⟨⟨kk, x, p⟩, ht⟩ : ∃ t, t = tk l k := ⟨_, rfl⟩
  rw [← ht] at HH ⊢
  unfold tkV at HH ⊢
  simp only at HH ⊢
  obtain ⟨sx, hsx⟩ : ∃ sx, sx = S x := ⟨_, rfl⟩
  rw [← hsx] at HH ⊢
  have hkb : k ≤ 100000 := by omega
  have HS : Hid _ := h
  have HK : Hid _ := hk
  have hb := h.blt
  clear ht hsx h hk hl
  go_enter Tryz.func85, Tryz.ntmps85
  go_wp2_with (first | (go_at_call 53; refine (HH _ bxS).mono ?_; rintro e w1 ⟨rfl, hb1⟩; have hB := bel bxS hb1; obtain ⟨c0, c1, cf⟩ := (HS.out.below hB).at_; have hb2 := (HS.out.below hB).blt; obtain ⟨r0, r1, r2, rf, rl⟩ := res_cells hb1))
  refine bodyPost_ret (v := .agg #[.int .i64 kk, .string sx, .int .i64 p]) (by simp [results, Tryz.results85, go_sem, r0, r1, r2, rf, rl]) rfl ?_
  have hg := HS.out.lt
  exact ⟨rfl, ((((St.set (HS.out.below hB) HK.out _ (by simp)).setR (by omega) (by omega)).setR (by omega) (by omega)).setR (by omega) (by omega)).below bxS, ((((Kp.of hB).setb.setR (Nat.le_refl _)).setR (Nat.le_refl _)).setR (Nat.le_refl _)).alloc⟩
end Go.Proofs.YthdhmlojihpfkaaGreat
