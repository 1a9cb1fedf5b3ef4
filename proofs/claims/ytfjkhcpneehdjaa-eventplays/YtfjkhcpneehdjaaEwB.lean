/- The document's queue: Without, Cancel. -/
import Derived.Test.YtfjkhcpneehdjaaEwA
namespace Go.Proofs.Ytfjkhcpneehdjaa
open Go.RowKit Qu Go.Maps
set_option linter.unusedVariables false
set_option linter.unusedSimpArgs false
set_option maxRecDepth 100000

theorem cells2 {w : World} {b : Nat} {y0 y1 : Value} {t : TypeId} (h : w.heap[b]? = some (.cells #[y0, y1] t (0, 0))) : w.cell? ⟨b, 0, none⟩ = some y0 ∧ w.cell? ⟨b, 1, none⟩ = some y1 ∧ w.frozen? ⟨b, 0, none⟩ = false ∧ w.frozen? ⟨b, 1, none⟩ = false :=
  ⟨by rw [Lib.cell_of_heap h]; rfl, by rw [Lib.cell_of_heap h]; rfl, by simp [World.frozen?, h], by simp [World.frozen?, h]⟩
/-- a list that grows, beside two blocks -/
structure Gr (w : World) (T : Nat) (o1 o2 : Obj) (W : World) (v : Value) (acc : List Ev) : Prop where
  a : EvS (T + 2) W v acc
  b : Below w.heap.size w W
  x : W.heap[T]? = some o1
  y : W.heap[T + 1]? = some o2
theorem Gr.start {w : World} {T : Nat} {o1 o2 : Obj} (hT : T = w.heap.size) : Gr w T o1 o2 ((w.alloc o1).alloc o2) (.slice none 0 0) [] := by
  subst hT
  exact ⟨World.ownsRow_nil _ _ _ _, belA (belA (Below.refl _ _) _) _, (alOld (by simp)).trans (alAt rfl), alAt (by simp)⟩
theorem Gr.grow {w : World} {T n : Nat} {o1 o2 : Obj} {W w9 : World} {v v9 : Value} {acc : List Ev} {x : Ev} {o : Obj} (hT : T = w.heap.size) (h : Gr w T o1 o2 W v acc) (hn : n = acc.length) (ho : w9.ownsRow (T + 2) 34 6 v9 (n + 1) (evs acc ++ evC x)) (hg : (W.alloc o).grownBy w9 v.ownBlock) : Gr w T o1 o2 w9 v9 (acc ++ [x]) := by
  have hy := hLt h.y
  have nb : ∀ k, k < T + 2 → some k ≠ v.ownBlock := fun k hk e => by have := (World.ownsRow.lt h.a k e.symm).1; omega
  have kp : ∀ k, k < T + 2 → w9.heap[k]? = W.heap[k]? := fun k hk => (hg.block k (by simp; omega) (nb k hk)).trans (alOld (by omega))
  refine ⟨?_, ⟨hg.os.trans h.b.os, hg.tape.trans h.b.tape, hg.output.trans h.b.output, ?_, fun k hk => (kp k (by omega)).trans (h.b.block k hk)⟩, (kp T (by omega)).trans h.x, (kp (T + 1) (by omega)).trans h.y⟩
  · unfold EvS
    rw [List.length_append, ← hn, evs_app]
    simpa [evs] using ho
  · have := hg.size; simp at this; have := h.b.size; omega
theorem Gr.up {w : World} {T : Nat} {o1 o2 : Obj} {W W' : World} {v : Value} {acc : List Ev} (h : Gr w T o1 o2 W v acc) (hb : Below W.heap.size W W') : Gr w T o1 o2 W' v acc :=
  ⟨h.a.below hb, belT h.b hb, (hb.block _ (hLt h.x)).trans h.x, (hb.block _ (hLt h.y)).trans h.y⟩
theorem Gr.slice {w : World} {T : Nat} {o1 o2 : Obj} {W : World} {v : Value} {acc : List Ev} (h : Gr w T o1 o2 W v acc) : ∃ ao cap, v = .slice ao acc.length cap := h.a.slice
/-- what stands behind it -/
theorem set1_at {W : World} {b : Nat} {x y z : Value} {t : TypeId} (h : W.heap[b]? = some (.cells #[x, y] t (0, 0))) : (W.setCell ⟨b, 1, none⟩ z).heap[b]? = some (.cells #[x, z] t (0, 0)) := by
  simp only [World.setCell]; rw [Array.getElem?_modify, if_pos rfl, h]; rfl
theorem gr_end {w : World} {T : Nat} {lim z : Int} {u u' : Value} {W : World} {v : Value} {acc : List Ev} (hT : T = w.heap.size) (h : Gr w T (.cells #[.int .i64 lim, u] 29 (0, 0)) (.cells #[.int .i64 z, u'] 29 (0, 0)) W v acc) :
    EvS w.heap.size (((W.setCell ⟨T, 1, none⟩ v).setCell ⟨T + 1, 0, none⟩ (.int .i64 lim)).setCell ⟨T + 1, 1, none⟩ v) v acc ∧ Below w.heap.size w (((W.setCell ⟨T, 1, none⟩ v).setCell ⟨T + 1, 0, none⟩ (.int .i64 lim)).setCell ⟨T + 1, 1, none⟩ v) := by
  have hy := hLt h.y
  have sz : (((W.setCell ⟨T, 1, none⟩ v).setCell ⟨T + 1, 0, none⟩ (.int .i64 lim)).setCell ⟨T + 1, 1, none⟩ v).heap.size = W.heap.size := set1_size.trans (set1_size.trans set1_size)
  have kp : ∀ k, k ≠ T → k ≠ T + 1 → (((W.setCell ⟨T, 1, none⟩ v).setCell ⟨T + 1, 0, none⟩ (.int .i64 lim)).setCell ⟨T + 1, 1, none⟩ v).heap[k]? = W.heap[k]? := fun k a b => (set1_block b).trans ((set1_block b).trans (set1_block a))
  refine ⟨own_mono (own_at h.a fun k hk => kp k ?_ ?_) (by omega), ⟨h.b.os, h.b.tape, h.b.output, by rw [sz]; exact h.b.size, fun k hk => (kp k (by omega) (by omega)).trans (h.b.block k hk)⟩⟩
  · have := (World.ownsRow.lt h.a k hk).1; omega
  · have := (World.ownsRow.lt h.a k hk).1; omega
theorem take_erase {s : List Ev} {i k : Nat} (hi : i < s.length) (hk : k < s.length) : (s.take (i + 1)).eraseIdx k = if i = k then (s.take i).eraseIdx k else (s.take i).eraseIdx k ++ [g s i] := by
  rw [List.take_succ_eq_append_getElem hi, g_at hi]
  split
  · rename_i e
    subst e
    have hl : (s.take i).length = i := by rw [List.length_take]; omega
    have e2 : (s.take i).eraseIdx i = s.take i := List.eraseIdx_of_length_le (by omega)
    rw [e2, List.eraseIdx_append_of_length_le (by omega), hl, Nat.sub_self]
    simp
  · rename_i e
    by_cases h : k < i
    · rw [List.eraseIdx_append_of_lt_length (by simp; omega)]
    · rw [List.eraseIdx_append_of_length_le (by simp; omega), List.eraseIdx_of_length_le (by simp; omega), List.eraseIdx_of_length_le (by simp; omega)]
set_option maxHeartbeats 4000000 in
theorem rWithout_c (B gb cap k : Nat) (lim : Int) (s : List Ev) (w : World) (h : EvR B w gb cap s) (hn : s.length ≤ 4096) (hk : k < s.length) :
    Calls Try.prog 23 #[.agg #[.int .i64 lim, .slice (some ⟨gb, 0, none⟩) s.length cap], .int .i64 (k : Int)] w fun e w' => ∃ v', e = .returned (.agg #[.int .i64 lim, v']) ∧ Hid (EvS w.heap.size w' v' (s.eraseIdx k)) ∧ Below w.heap.size w w' := by
  have HR : Hid (EvR B w gb cap s) := h
  clear h
  obtain ⟨n, hN⟩ : ∃ n, n = s.length := ⟨_, rfl⟩
  rw [← hN] at hn hk ⊢
  have HN : Hid (n = s.length) := hN
  clear hN
  obtain ⟨i0, h1, h2, h3, h4⟩ := infoEv
  go_enter Try.func23, Try.ntmps23
  go_wp2
  obtain ⟨T, hT⟩ : ∃ T, T = w.heap.size := ⟨_, rfl⟩
  have HT : Hid (T = w.heap.size) := hT
  have HG0 : Hid (Gr w T (.cells #[.int .i64 lim, .slice (some ⟨gb, 0, none⟩) n cap] 29 (0, 0)) (.cells #[.int .i64 0, .slice none 0 0] 29 (0, 0)) ((w.alloc (.cells #[.int .i64 lim, .slice (some ⟨gb, 0, none⟩) n cap] 29)).alloc (.cells #[.int .i64 0, .slice none 0 0] 29)) (.slice none 0 0) []) := Gr.start hT
  rw [← hT]
  clear hT
  generalize (w.alloc (.cells #[.int .i64 lim, .slice (some ⟨gb, 0, none⟩) n cap] 29)).alloc (.cells #[.int .i64 0, .slice none 0 0] 29) = W0 at HG0 ⊢
  go_loopw [6, 5] (fun s6 s5 W => ∃ (i m : Nat) (ao : Option Addr) (c : Nat) (acc : List Ev), i ≤ n ∧ m ≤ i ∧ s6 = .int .i64 i ∧ s5 = .slice ao m c ∧ Hid (Gr w T (.cells #[.int .i64 lim, .slice (some ⟨gb, 0, none⟩) n cap] 29 (0, 0)) (.cells #[.int .i64 0, .slice none 0 0] 29 (0, 0)) W (.slice ao m c) acc) ∧ Hid (m = acc.length ∧ acc = (s.take i).eraseIdx k)) (fun s6 s5 W => n - (intOf s6).toNat)
  case atStart => exact ⟨0, 0, none, 0, [], Nat.zero_le _, Nat.le_refl _, rfl, rfl, HG0.out, rfl, by simp⟩
  case round =>
    clear HG0
    obtain ⟨i, m, ao, c, acc, hi, hmi, rfl, rfl, HG, HA⟩ := hrel
    obtain ⟨c0, c1, f0, f1⟩ := cells2 HG.out.x
    obtain ⟨d0, d1, p0, p1⟩ := cells2 HG.out.y
    have lT := hLt HG.out.x
    have lR := hLt HG.out.y
    by_cases hlt : i < n
    · have hl : i < s.length := by have := HN.out; omega
      obtain ⟨a0, a1, a2, a3, a4, a5⟩ := (HR.out.at_ (HG.out.b.block gb HR.out.lt)).cells i hl
      have i1 : (0 : Int) ≤ (i : Int) := by omega
      have i2 : (i : Int) < (n : Int) := by omega
      by_cases hik : i = k
      · have q1 : ((i : Int) != (k : Int)) = false := by rw [hik]; simp
        have HX : Hid ((s.take (i + 1)).eraseIdx k = (s.take i).eraseIdx k) := by show _ = _; rw [take_erase hl (by have := HN.out; omega), if_pos hik]
        clear hik hl
        go_wp2
        go_roundw
        case rel => exact ⟨i + 1, m, ao, c, acc, hlt, by omega, by go_num, rfl, HG.out, HA.out.1, by rw [HX.out]; exact HA.out.2⟩
        case measure => simp [intOf]; omega
      · have q1 : ((i : Int) != (k : Int)) = true := by simp; omega
        have HX : Hid ((s.take (i + 1)).eraseIdx k = (s.take i).eraseIdx k ++ [g s i]) := by show _ = _; rw [take_erase hl (by have := HN.out; omega), if_neg hik]
        clear hik hl
        generalize g s i = x at a0 a1 a2 a3 a4 a5 HX
        go_wp2_with (first
          | (at_builtin; refine wpList_append_own_at _ rfl _ _ 27 rfl (T + 2) 34 i0 _ 6 56 Try.underlying27 h1 h2 h3 h4 rfl (by decide) (.slice ao m c) m (evs acc) rfl (by have hh := HG.out.a; unfold EvS at hh; rw [← HA.out.1] at hh; exact hh.alloc _) ⟨wr.heap.size, 0, none⟩ 1 1 (evC x) rfl rfl (new6 _ x _ _ rfl) (one6 x) (by unfold maxLen; omega) (by omega) (by simp; omega) ?_; intro v9 w9 hown9 hgrow9 hnil9 hloc9; obtain ⟨g9, cap9, rfl⟩ := own_slice1 hown9))
        have HG9 : Hid (Gr w T (.cells #[.int .i64 lim, .slice (some ⟨gb, 0, none⟩) n cap] 29 (0, 0)) (.cells #[.int .i64 0, .slice none 0 0] 29 (0, 0)) w9 (.slice (some ⟨g9, 0, none⟩) (m + 1) cap9) (acc ++ [x])) := HG.out.grow HT.out HA.out.1 hown9 hgrow9
        clear hown9 hgrow9 hnil9 hloc9
        go_roundw
        case rel => exact ⟨i + 1, m + 1, _, cap9, acc ++ [x], hlt, by omega, by go_num, rfl, HG9.out, by rw [List.length_append, ← HA.out.1]; rfl, by rw [HX.out, ← HA.out.2]⟩
        case measure => simp [intOf]; omega
    · obtain rfl : i = n := by omega
      go_wp2
      refine bodyPost_ret (v := .agg #[.int .i64 lim, .slice ao m c]) (by simp [results, Try.results23, go_sem, d0, d1]) rfl ?_
      have hE := gr_end HT.out HG.out
      refine ⟨_, rfl, ?_, hE.2⟩
      have e : acc = s.eraseIdx k := by rw [HA.out.2, HN.out, List.take_length]
      rw [← e]
      exact hE.1
end Go.Proofs.Ytfjkhcpneehdjaa
