/- The document's queue: New, ahead, find. -/
import Derived.Test.YtfjkhcpneehdjaaEvY
namespace Go.Proofs.Ytfjkhcpneehdjaa
open Go.RowKit Qu Go.Maps
set_option linter.unusedVariables false
set_option linter.unusedSimpArgs false
set_option maxRecDepth 100000

set_option maxHeartbeats 1000000 in
theorem rAhead_c (a b : Ev) (w : World) : Calls Try.prog 30 #[.agg #[.int .i64 a.t, .int .i64 a.nd, .string a.v, .int .i64 a.fr, .int .i64 a.sq, .bool a.an], .agg #[.int .i64 b.t, .int .i64 b.nd, .string b.v, .int .i64 b.fr, .int .i64 b.sq, .bool b.an]] w fun e w' => e = .returned (.bool (decide (lt a b))) ∧ Below w.heap.size w w' := by
  obtain ⟨at_, an, av, af, as_, aa⟩ := a
  obtain ⟨bt_, bn, bv, bf, bs, ba⟩ := b
  dsimp only
  go_enter Try.func30, Try.ntmps30
  go_wp2
  all_goals (go_ret; exact ⟨ret_bool (by rw [Bool.eq_iff_iff]; unfold lt; simp_all <;> omega), belA (belA (Below.refl _ _) _) _⟩)
set_option maxHeartbeats 1000000 in
theorem rNew_c (lim : Int) (w : World) (h1 : 1 ≤ lim) (h2 : lim ≤ 4096) : Calls Try.prog 9 #[.int .i64 lim] w fun e w' => e = .returned (.tuple #[.agg #[.int .i64 lim, .slice none 0 0], .int .i64 0]) ∧ Below w.heap.size w w' := by
  go_enter Try.func9, Try.ntmps9
  go_wp2
  go_returns
  exact ⟨rfl, belA (Below.refl _ _) _⟩
set_option maxHeartbeats 1000000 in
theorem rNew_no (lim : Int) (w : World) (h : lim < 1 ∨ 4096 < lim) : Calls Try.prog 9 #[.int .i64 lim] w fun e w' => e = .returned (.tuple #[.agg #[.int .i64 0, .slice none 0 0], .int .i64 1]) ∧ Below w.heap.size w w' := by
  rcases h with h | h
  · go_enter Try.func9, Try.ntmps9
    go_wp2
    go_returns
    exact ⟨rfl, belA (Below.refl _ _) _⟩
  · have h1 : ¬ lim < 1 := by omega
    go_enter Try.func9, Try.ntmps9
    go_wp2
    go_returns
    exact ⟨rfl, belA (Below.refl _ _) _⟩
/-- a list of the document's -/
theorem EvS.shape {B : Nat} {W : World} {v : Value} {l : List Ev} (h : EvS B W v l) : (v = .slice none 0 0 ∧ l = []) ∨ ∃ gb cap, v = .slice (some ⟨gb, 0, none⟩) l.length cap ∧ EvR B W gb cap l := by
  have h' := h
  unfold EvS at h'
  rcases h'.2 with ⟨a, z⟩ | ⟨g', cap', cur, a, _⟩
  · exact Or.inl ⟨a, List.eq_nil_of_length_eq_zero z⟩
  · refine Or.inr ⟨g', cap', a, ?_⟩
    rw [a] at h
    exact h
set_option maxHeartbeats 2000000 in
theorem rFind_some (B gb cap : Nat) (lim : Int) (l : List Ev) (fr sq : Int) (w : World) (h : EvR B w gb cap l) (hn : l.length ≤ 1000000) :
    Calls Try.prog 29 #[.agg #[.int .i64 lim, .slice (some ⟨gb, 0, none⟩) l.length cap], .int .i64 fr, .int .i64 sq] w fun e w' => ∃ k, e = .returned (.int .i64 k) ∧ Hid (Fd l fr sq k) ∧ Below w.heap.size w w' := by
  have HR : Hid (EvR B w gb cap l) := h
  clear h
  obtain ⟨n, hN⟩ : ∃ n, n = l.length := ⟨_, rfl⟩
  rw [← hN] at hn ⊢
  have HN : Hid (n = l.length) := hN
  clear hN
  go_enter Try.func29, Try.ntmps29
  go_wp2
  obtain ⟨T, hT⟩ : ∃ T, T = w.heap.size := ⟨_, rfl⟩
  have HB0 : Hid (Below w.heap.size w (w.alloc (.cells #[.int .i64 lim, .slice (some ⟨gb, 0, none⟩) n cap] 29))) := belA (Below.refl _ _) _
  have HC0 : Hid ((w.alloc (.cells #[.int .i64 lim, .slice (some ⟨gb, 0, none⟩) n cap] 29)).cell? ⟨T, 1, none⟩ = some (.slice (some ⟨gb, 0, none⟩) n cap)) := by show _ = _; rw [hT, Lib.cell_of_heap (alAt rfl)]; rfl
  rw [← hT]
  have HT : Hid (T = w.heap.size) := hT
  clear hT
  generalize w.alloc (.cells #[.int .i64 lim, .slice (some ⟨gb, 0, none⟩) n cap] 29) = W0 at HB0 HC0 ⊢
  go_loopw [7] (fun s7 W => ∃ (i : Nat), i ≤ n ∧ s7 = .int .i64 i ∧ Hid (∀ j, j < i → ¬ ((g l j).fr = fr ∧ (g l j).sq = sq)) ∧ Hid (W = W0)) (fun s7 W => n - (intOf s7).toNat)
  case atStart => exact ⟨0, Nat.zero_le _, rfl, fun j hj => by omega, rfl⟩
  case round =>
    obtain ⟨i, hi, rfl, HF, HE⟩ := hrel
    rw [HE.out]
    clear HE
    have c1 := HC0.out
    have hTl := World.block_lt_of_cell? _ _ c1
    by_cases hlt : i < n
    · have hl : i < l.length := by have := HN.out; omega
      obtain ⟨a0, a1, a2, a3, a4, a5⟩ := (HR.out.at_ (HB0.out.block gb HR.out.lt)).cells i hl
      have i1 : (0 : Int) ≤ (i : Int) := by omega
      have i2 : (i : Int) < (n : Int) := by omega
      clear hl
      by_cases hx : (g l i).fr = fr
      · by_cases hy : (g l i).sq = sq
        · have HX : Hid ((g l i).fr = fr ∧ (g l i).sq = sq) := ⟨hx, hy⟩
          rw [hx] at a3
          rw [hy] at a4
          clear hx hy
          go_wp2
          go_ret
          exact ⟨_, rfl, Or.inr ⟨i, by have := HN.out; omega, rfl, HX.out⟩, HB0.out⟩
        · have HX : Hid (¬ ((g l i).fr = fr ∧ (g l i).sq = sq)) := fun h => hy h.2
          have q1 : ((g l i).sq == sq) = false := by rw [beq_eq_false_iff_ne]; exact hy
          rw [hx] at a3
          clear hx hy
          go_wp2
          go_roundw
          case rel =>
            have HF2 : Hid (∀ j, j < i + 1 → ¬ ((g l j).fr = fr ∧ (g l j).sq = sq)) := fun j hj => by
              rcases (by omega : j < i ∨ j = i) with e | e
              · exact HF.out j e
              · subst e; exact HX.out
            exact ⟨i + 1, hlt, by go_num, HF2, trivial⟩
          case measure => simp [intOf]; omega
      · have HX : Hid (¬ ((g l i).fr = fr ∧ (g l i).sq = sq)) := fun h => hx h.1
        have q1 : ((g l i).fr == fr) = false := by rw [beq_eq_false_iff_ne]; exact hx
        clear hx
        go_wp2
        go_roundw
        case rel =>
          have HF2 : Hid (∀ j, j < i + 1 → ¬ ((g l j).fr = fr ∧ (g l j).sq = sq)) := fun j hj => by
            rcases (by omega : j < i ∨ j = i) with e | e
            · exact HF.out j e
            · subst e; exact HX.out
          exact ⟨i + 1, hlt, by go_num, HF2, trivial⟩
        case measure => simp [intOf]; omega
    · obtain rfl : i = n := by omega
      go_wp2
      go_ret
      exact ⟨_, rfl, Or.inl ⟨rfl, fun j hj => HF.out j (by have := HN.out; omega)⟩, HB0.out⟩
set_option maxHeartbeats 1000000 in
theorem rFind_nil (lim : Int) (fr sq : Int) (w : World) : Calls Try.prog 29 #[.agg #[.int .i64 lim, .slice none 0 0], .int .i64 fr, .int .i64 sq] w fun e w' => e = .returned (.int .i64 (-1)) ∧ Below w.heap.size w w' := by
  go_enter Try.func29, Try.ntmps29
  go_wp2
  go_rounds 1
  go_ret
  exact ⟨rfl, belA (Below.refl _ _) _⟩
theorem rFind_c (B : Nat) (lim : Int) (v : Value) (l : List Ev) (fr sq : Int) (w : World) (h : EvS B w v l) (hn : l.length ≤ 1000000) :
    Calls Try.prog 29 #[.agg #[.int .i64 lim, v], .int .i64 fr, .int .i64 sq] w fun e w' => ∃ k, e = .returned (.int .i64 k) ∧ Hid (Fd l fr sq k) ∧ Below w.heap.size w w' := by
  rcases h.shape with ⟨rfl, rfl⟩ | ⟨gb, cap, rfl, hr⟩
  · refine (rFind_nil lim fr sq w).mono ?_
    rintro e w' ⟨rfl, hb⟩
    exact ⟨_, rfl, Or.inl ⟨rfl, fun i hi => by simp at hi⟩, hb⟩
  · exact rFind_some B gb cap lim l fr sq w hr hn
end Go.Proofs.Ytfjkhcpneehdjaa
