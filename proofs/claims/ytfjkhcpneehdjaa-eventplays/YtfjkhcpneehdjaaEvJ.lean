/- A queue's own: given, Len, queueOf, New; find. -/
import Derived.Test.YtfjkhcpneehdjaaEvI
import Derived.LaidEqlPtr
namespace Go.Proofs.Ytfjkhcpneehdjaa
open Go.RowKit Qu Go.Maps
set_option linter.unusedVariables false
set_option linter.unusedSimpArgs false

theorem infoQ : ∃ i, Try.prog.info? 51 = some i ∧ i.zero = some (.agg #[.pointer none, .int .i64 0, .slice none 0 0]) ∧ i.size = 3 ∧ i.bytes = 40 := info_parts (by kernel_rfl)
set_option maxHeartbeats 400000 in
theorem given_nil (w : World) : Calls Try.prog 20 #[.pointer none] w fun e w' => e = .returned (.bool false) ∧ w' = w := by
  go_enter Try.func20, Try.ntmps20
  go_wp2
  go_ret
  exact ⟨rfl, rfl⟩
set_option maxHeartbeats 400000 in
theorem given_zero (q : Nat) (w : World) (h : w.cell? ⟨q, 0, none⟩ = some (.pointer none)) : Calls Try.prog 20 #[.pointer (some ⟨q, 0, none⟩)] w fun e w' => e = .returned (.bool false) ∧ w' = w := by
  have hq : (binOp BinOp.eql 23 (.pointer none) (.pointer (some ⟨q, 0, none⟩))).run Try.prog w = .ok (.bool false) w := by kernel_rfl
  go_enter Try.func20, Try.ntmps20
  go_wp2
  go_ret
  exact ⟨rfl, rfl⟩
set_option maxHeartbeats 400000 in
theorem given_c (q : Nat) (w : World) (h : w.cell? ⟨q, 0, none⟩ = some (.pointer (some ⟨q, 0, none⟩))) : Calls Try.prog 20 #[.pointer (some ⟨q, 0, none⟩)] w fun e w' => e = .returned (.bool true) ∧ w' = w := by
  obtain ⟨jj, hj, _, _, _⟩ := infoQ
  have hq := run_eql_ptr_same (P := Try.prog) w (tp := 23) (te := 51) (⟨q, 0, none⟩ : Addr) (by kernel_rfl) hj
  clear hj
  go_enter Try.func20, Try.ntmps20
  go_wp2
  go_ret
  exact ⟨rfl, rfl⟩
set_option maxHeartbeats 400000 in
theorem len_no (p : Option Addr) (w : World) (h : Calls Try.prog 20 #[.pointer p] w fun e w' => e = .returned (.bool false) ∧ w' = w) : Calls Try.prog 13 #[.pointer p] w fun e w' => e = .returned (.int .i64 0) ∧ w' = w := by
  have H : Hid (Calls Try.prog 20 #[.pointer p] w fun e w' => e = .returned (.bool false) ∧ w' = w) := h
  clear h
  go_enter Try.func13, Try.ntmps13
  go_wp2_with (first
    | (go_at_call 20; refine H.out.mono ?_; rintro e w1 ⟨rfl, hw⟩; rw [hw]; clear hw))
  go_ret
  exact ⟨rfl, rfl⟩
set_option maxHeartbeats 400000 in
theorem len_c (B q : Nat) (lim : Int) (v : Value) (l : List Ev) (w : World) (h : Qb B q lim w v l) : Calls Try.prog 13 #[.pointer (some ⟨q, 0, none⟩)] w fun e w' => e = .returned (.int .i64 (l.length : Int)) ∧ w' = w := by
  obtain ⟨c0, c1, c2, f2⟩ := cells3 h.blk
  obtain ⟨ao, cap, rfl⟩ := h.row.slice
  have H : Hid (Calls Try.prog 20 #[.pointer (some ⟨q, 0, none⟩)] w fun e w' => e = .returned (.bool true) ∧ w' = w) := given_c q w c0
  clear h
  go_enter Try.func13, Try.ntmps13
  go_wp2_with (first
    | (go_at_call 20; refine H.out.mono ?_; rintro e w1 ⟨rfl, hw⟩; rw [hw]; clear hw))
  go_ret
  exact ⟨rfl, rfl⟩
set_option maxHeartbeats 400000 in
theorem queueOf_c (lim : Int) (ao : Option Addr) (n cap : Nat) (w : World) : Calls Try.prog 19 #[.int .i64 lim, .slice ao n cap] w fun e w' => e = .returned (.pointer (some ⟨w.heap.size, 0, none⟩)) ∧ w' = w.alloc (.cells #[.pointer (some ⟨w.heap.size, 0, none⟩), .int .i64 lim, .slice ao n cap] 51) := by
  go_enter Try.func19, Try.ntmps19
  go_wp2
  go_ret
  exact ⟨rfl, rfl⟩
theorem Qh.start (B : Nat) (lim : Int) (w : World) (hB : B ≤ w.heap.size) : Qh B w.heap.size lim (w.alloc (.cells #[.pointer (some ⟨w.heap.size, 0, none⟩), .int .i64 lim, .slice none 0 0] 51)) (.slice none 0 0) [] :=
  ⟨⟨alAt rfl, World.ownsRow_nil _ _ _ _, hB⟩, fun c _ h => by simp at h⟩
set_option maxHeartbeats 400000 in
theorem new_c (lim : Int) (w : World) (h1 : 1 ≤ lim) (h2 : lim ≤ 4096) : Calls Try.prog 8 #[.int .i64 lim] w fun e w' => e = .returned (.tuple #[.pointer (some ⟨w.heap.size, 0, none⟩), .int .i64 0]) ∧ w' = w.alloc (.cells #[.pointer (some ⟨w.heap.size, 0, none⟩), .int .i64 lim, .slice none 0 0] 51) := by
  go_enter Try.func8, Try.ntmps8
  go_wp2_with (first
    | (go_at_call 19; refine (queueOf_c _ _ _ _ _).mono ?_; rintro e w1 ⟨rfl, hw⟩; rw [hw]; clear hw))
  go_ret2
  exact ⟨rfl, rfl⟩
set_option maxHeartbeats 400000 in
theorem new_no (lim : Int) (w : World) (h : lim < 1 ∨ 4096 < lim) : Calls Try.prog 8 #[.int .i64 lim] w fun e w' => e = .returned (.tuple #[.pointer none, .int .i64 1]) ∧ w' = w := by
  rcases h with h | h
  · go_enter Try.func8, Try.ntmps8
    go_wp2
    go_ret2
    exact ⟨rfl, rfl⟩
  · have h1 : ¬ lim < 1 := by omega
    go_enter Try.func8, Try.ntmps8
    go_wp2
    go_ret2
    exact ⟨rfl, rfl⟩
set_option maxHeartbeats 1000000 in
theorem is_c (x : Ev) (fr sq : Int) (b c : Nat) (w : World) (h1 : w.cell? ⟨b, 0, none⟩ = some (.int .i64 fr)) (h2 : w.cell? ⟨c, 0, none⟩ = some (.int .i64 sq)) :
    Calls Try.prog 32 #[.agg #[.int .i64 x.t, .int .i64 x.nd, .string x.v, .int .i64 x.fr, .int .i64 x.sq, .bool x.an], .pointer (some ⟨b, 0, none⟩), .pointer (some ⟨c, 0, none⟩)] w fun e w' => e = .returned (.bool (decide (x.fr = fr ∧ x.sq = sq))) ∧ Below w.heap.size w w' := by
  have hb : b < w.heap.size := World.block_lt_of_cell? w ⟨b, 0, none⟩ h1
  have hc : c < w.heap.size := World.block_lt_of_cell? w ⟨c, 0, none⟩ h2
  obtain ⟨xt, xn, xv, xf, xs, xa⟩ := x
  dsimp only
  go_enter Try.func32, Try.ntmps32
  go_wp2
  all_goals (go_ret; exact ⟨ret_bool (by rw [Bool.eq_iff_iff]; simp_all), belA (Below.refl _ _) _⟩)
/-- where an event of these numbers stands -/
def Fd (l : List Ev) (fr sq k : Int) : Prop := (k = -1 ∧ ∀ i, i < l.length → ¬ ((g l i).fr = fr ∧ (g l i).sq = sq)) ∨ (∃ i : Nat, i < l.length ∧ k = (i : Int) ∧ (g l i).fr = fr ∧ (g l i).sq = sq)
/-- an event of a row, its cells, at any world behind -/
theorem EvS.cells {B : Nat} {W : World} {gb : Addr} {n cap : Nat} {l : List Ev} (h : EvS B W (.slice (some gb) n cap) l) (i : Nat) (hi : i < l.length) : gb = ⟨gb.block, 0, none⟩ ∧ n = l.length ∧ EvR B W gb.block cap l := by
  have h' := h
  unfold EvS at h'
  rcases h'.2 with ⟨a, _⟩ | ⟨g', cap', cur, a, _⟩
  · cases a
  · injection a with a b c
    injection a with a
    subst a b c
    exact ⟨rfl, rfl, h⟩
theorem EvS.below {B : Nat} {W W' : World} {v : Value} {l : List Ev} (h : EvS B W v l) (hb : Below W.heap.size W W') : EvS B W' v l := own_at h fun k hk => hb.block k (World.ownsRow.lt h k hk).2
set_option maxHeartbeats 2000000 in
theorem index_some (B gb cap : Nat) (l : List Ev) (fr sq : Int) (b c : Nat) (w : World) (h : EvR B w gb cap l) (h1 : w.cell? ⟨b, 0, none⟩ = some (.int .i64 fr)) (h2 : w.cell? ⟨c, 0, none⟩ = some (.int .i64 sq)) (hn : l.length ≤ 1000000) :
    Calls Try.prog 31 #[.slice (some ⟨gb, 0, none⟩) l.length cap, .func (.func 32) #[] #[.pointer (some ⟨b, 0, none⟩), .pointer (some ⟨c, 0, none⟩)]] w fun e w' => ∃ k, e = .returned (.int .i64 k) ∧ Hid (Fd l fr sq k) ∧ Below w.heap.size w w' := by
  have hb : b < w.heap.size := World.block_lt_of_cell? w ⟨b, 0, none⟩ h1
  have hc : c < w.heap.size := World.block_lt_of_cell? w ⟨c, 0, none⟩ h2
  have HS : Hid (EvR B w gb cap l ∧ w.cell? ⟨b, 0, none⟩ = some (.int .i64 fr) ∧ w.cell? ⟨c, 0, none⟩ = some (.int .i64 sq)) := ⟨h, h1, h2⟩
  clear h h1 h2
  obtain ⟨n, hN⟩ : ∃ n, n = l.length := ⟨_, rfl⟩
  rw [← hN] at hn ⊢
  have HN : Hid (n = l.length) := hN
  clear hN
  go_enter Try.func31, Try.ntmps31
  go_wp2
  go_loopw [8] (fun s8 W => ∃ (i : Nat), i ≤ n ∧ s8 = .int .i64 i ∧ Hid (∀ j, j < i → ¬ ((g l j).fr = fr ∧ (g l j).sq = sq)) ∧ Hid (Below w.heap.size w W)) (fun s8 W => n - (intOf s8).toNat)
  case atStart => exact ⟨0, Nat.zero_le _, rfl, fun j hj => by omega, Below.refl _ _⟩
  case round =>
    obtain ⟨i, hi, rfl, HF, HB⟩ := hrel
    by_cases hlt : i < n
    · have hs := HS.out.1.at_ (HB.out.block gb HS.out.1.lt)
      have hl : i < l.length := by have := HN.out; omega
      have hr := hs
      obtain ⟨a0, a1, a2, a3, a4, a5⟩ := hr.cells i hl
      have HI : Hid (∀ W, Below wr.heap.size wr W → Calls Try.prog 32 #[.agg #[.int .i64 (g l i).t, .int .i64 (g l i).nd, .string (g l i).v, .int .i64 (g l i).fr, .int .i64 (g l i).sq, .bool (g l i).an], .pointer (some ⟨b, 0, none⟩), .pointer (some ⟨c, 0, none⟩)] W fun e w' => e = .returned (.bool (decide ((g l i).fr = fr ∧ (g l i).sq = sq))) ∧ Below W.heap.size W w') := fun W hW => is_c (g l i) fr sq b c W (by rw [((belT HB.out hW)).cell (p := ⟨b, 0, none⟩) hb]; exact HS.out.2.1) (by rw [((belT HB.out hW)).cell (p := ⟨c, 0, none⟩) hc]; exact HS.out.2.2)
      have i1 : (0 : Int) ≤ (i : Int) := by omega
      have i2 : (i : Int) < (n : Int) := by omega
      clear hs hr hl
      by_cases hx : (g l i).fr = fr ∧ (g l i).sq = sq
      · rw [decide_eq_true hx] at HI
        have HX : Hid ((g l i).fr = fr ∧ (g l i).sq = sq) := hx
        clear hx
        go_wp2_with (first
          | (go_at_call 32; refine (HI.out _ (Below.refl _ _)).mono ?_; rintro e w2 ⟨rfl, hb2⟩))
        go_ret
        exact ⟨_, rfl, Or.inr ⟨i, by have := HN.out; omega, rfl, HX.out⟩, belT HB.out hb2⟩
      · rw [decide_eq_false hx] at HI
        have HX : Hid (¬ ((g l i).fr = fr ∧ (g l i).sq = sq)) := hx
        clear hx
        go_wp2_with (first
          | (go_at_call 32; refine (HI.out _ (Below.refl _ _)).mono ?_; rintro e w2 ⟨rfl, hb2⟩))
        go_roundw
        case rel =>
          have HF2 : Hid (∀ j, j < i + 1 → ¬ ((g l j).fr = fr ∧ (g l j).sq = sq)) := fun j hj => by
            rcases (by omega : j < i ∨ j = i) with e | e
            · exact HF.out j e
            · subst e; exact HX.out
          exact ⟨i + 1, hlt, by go_num, HF2, belT HB.out hb2⟩
        case measure => simp [intOf]; omega
    · obtain rfl : i = n := by omega
      go_wp2
      go_ret
      exact ⟨_, rfl, Or.inl ⟨rfl, fun j hj => HF.out j (by have := HN.out; omega)⟩, HB.out⟩
set_option maxHeartbeats 400000 in
theorem index_nil (f : Value) (w : World) : Calls Try.prog 31 #[.slice none 0 0, f] w fun e w' => e = .returned (.int .i64 (-1)) ∧ w' = w := by
  go_enter Try.func31, Try.ntmps31
  go_wp2
  go_rounds 1
  go_ret
  exact ⟨rfl, rfl⟩
theorem index_c (B : Nat) (ao : Option Addr) (cap : Nat) (l : List Ev) (fr sq : Int) (b c : Nat) (w : World) (h : EvS B w (.slice ao l.length cap) l) (h1 : w.cell? ⟨b, 0, none⟩ = some (.int .i64 fr)) (h2 : w.cell? ⟨c, 0, none⟩ = some (.int .i64 sq)) (hn : l.length ≤ 1000000) :
    Calls Try.prog 31 #[.slice ao l.length cap, .func (.func 32) #[] #[.pointer (some ⟨b, 0, none⟩), .pointer (some ⟨c, 0, none⟩)]] w fun e w' => ∃ k, e = .returned (.int .i64 k) ∧ Hid (Fd l fr sq k) ∧ Below w.heap.size w w' := by
  have h' := h
  unfold EvS at h'
  rcases h'.2 with ⟨a, z⟩ | ⟨g', cap', cur, a, _⟩
  · rw [a]
    refine (index_nil _ w).mono ?_
    rintro e w' ⟨rfl, hw⟩
    rw [hw]
    exact ⟨_, rfl, Or.inl ⟨rfl, fun i hi => by omega⟩, Below.refl _ _⟩
  · injection a with a b c
    subst a c
    exact index_some B g' cap l fr sq _ _ w h h1 h2 hn
set_option maxHeartbeats 2000000 in
theorem find_c (B : Nat) (ao : Option Addr) (cap : Nat) (l : List Ev) (fr sq : Int) (w : World) (h : EvS B w (.slice ao l.length cap) l) (hn : l.length ≤ 1000000) :
    Calls Try.prog 25 #[.slice ao l.length cap, .int .i64 fr, .int .i64 sq] w fun e w' => ∃ k, e = .returned (.int .i64 k) ∧ Hid (Fd l fr sq k) ∧ Below w.heap.size w w' := by
  have HW : Hid (Below w.heap.size w ((w.alloc (.cells #[.int .i64 fr] 3)).alloc (.cells #[.int .i64 sq] 3))) := belA (belA (Below.refl _ _) _) _
  have HI : Hid (Calls Try.prog 31 #[.slice ao l.length cap, .func (.func 32) #[] #[.pointer (some ⟨w.heap.size, 0, none⟩), .pointer (some ⟨w.heap.size + 1, 0, none⟩)]] ((w.alloc (.cells #[.int .i64 fr] 3)).alloc (.cells #[.int .i64 sq] 3)) fun e w' => ∃ k, e = .returned (.int .i64 k) ∧ Hid (Fd l fr sq k) ∧ Below ((w.alloc (.cells #[.int .i64 fr] 3)).alloc (.cells #[.int .i64 sq] 3)).heap.size ((w.alloc (.cells #[.int .i64 fr] 3)).alloc (.cells #[.int .i64 sq] 3)) w') := index_c B ao cap l fr sq w.heap.size (w.heap.size + 1) _ (h.below HW.out) (by rw [Lib.cell_of_heap ((alOld (by simp)).trans (alAt rfl))]; rfl) (by rw [Lib.cell_of_heap (alAt (by simp))]; rfl) hn
  clear h
  generalize l.length = n at *
  go_enter Try.func25, Try.ntmps25
  go_wp2_with (first
    | (go_at_call 31; refine HI.out.mono ?_; rintro e w2 ⟨k, rfl, hk, hb2⟩))
  go_ret
  exact ⟨k, rfl, hk, belT HW.out hb2⟩
end Go.Proofs.Ytfjkhcpneehdjaa
