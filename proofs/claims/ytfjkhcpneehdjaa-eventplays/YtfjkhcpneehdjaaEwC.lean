/- The document's queue: Cancel, Put. -/
import Derived.Test.YtfjkhcpneehdjaaEwB
namespace Go.Proofs.Ytfjkhcpneehdjaa
open Go.RowKit Qu Go.Maps
set_option linter.unusedVariables false
set_option linter.unusedSimpArgs false
set_option maxRecDepth 100000

set_option maxHeartbeats 2000000 in
theorem rCancel_no (B : Nat) (lim : Int) (ao : Option Addr) (n cap : Nat) (s : List Ev) (fr sq : Int) (w : World) (h : EvS B w (.slice ao n cap) s) (hn : s.length ≤ 4096) (hk : hasK s fr sq = false) :
    Calls Try.prog 24 #[.agg #[.int .i64 lim, .slice ao n cap], .int .i64 fr, .int .i64 sq] w fun e w' => e = .returned (.tuple #[.agg #[.int .i64 lim, .slice ao n cap], .bool false]) ∧ Below w.heap.size w w' := by
  have HF : Hid (∀ W, Below w.heap.size w W → Calls Try.prog 29 #[.agg #[.int .i64 lim, .slice ao n cap], .int .i64 fr, .int .i64 sq] W fun e w' => e = .returned (.int .i64 (-1)) ∧ Below W.heap.size W w') := fun W hW => (rFind_c B lim _ s fr sq W (h.below hW) (by omega)).mono (by rintro e w' ⟨k, rfl, a, b⟩; rw [a.out.no hk]; exact ⟨rfl, b⟩)
  clear h hk
  go_enter Try.func24, Try.ntmps24
  go_wp2_with (first
    | (go_at_call 29; refine (HF.out _ (belA (belA (Below.refl _ _) _) _)).mono ?_; rintro e w2 ⟨rfl, hb2⟩; obtain ⟨c0, c1, _, _⟩ := cells2 (w := w2) (b := w.heap.size) ((hb2.block _ (by simp; omega)).trans ((alOld (by simp)).trans (alAt rfl))); obtain ⟨d0, d1, p0, p1⟩ := cells2 (w := w2) (b := w.heap.size + 1) ((hb2.block _ (by simp)).trans (alAt (by simp))); have hz : w.heap.size + 1 < w2.heap.size := (by have := hb2.size; simp at this; omega)))
  refine bodyPost_ret (v := .tuple #[.agg #[.int .i64 lim, .slice ao n cap], .bool false]) (by simp [results, Try.results24, go_sem, d0, d1]) rfl ?_
  exact ⟨rfl, ((belT (belA (belA (Below.refl _ _) _) _) hb2).setCell (p := ⟨w.heap.size + 1, 0, none⟩) (by show w.heap.size ≤ w.heap.size + 1; omega) _).setCell (p := ⟨w.heap.size + 1, 1, none⟩) (by show w.heap.size ≤ w.heap.size + 1; omega) _⟩
set_option maxHeartbeats 2000000 in
theorem rCancel_yes (B : Nat) (lim : Int) (v : Value) (s : List Ev) (fr sq : Int) (w : World) (h : EvS B w v s) (hn : s.length ≤ 4096) (hk : hasK s fr sq = true) :
    Calls Try.prog 24 #[.agg #[.int .i64 lim, v], .int .i64 fr, .int .i64 sq] w fun e w' => ∃ k v', e = .returned (.tuple #[.agg #[.int .i64 lim, v'], .bool true]) ∧ Hid (EvS w.heap.size w' v' (s.eraseIdx k)) ∧ Hid (k < s.length ∧ isK fr sq (g s k)) ∧ Below w.heap.size w w' := by
  have hp : 0 < s.length := by obtain ⟨x, hx, _⟩ := hasK_iff.1 hk; exact List.length_pos_of_mem hx
  have HF : Hid (∀ W, Below w.heap.size w W → Calls Try.prog 29 #[.agg #[.int .i64 lim, v], .int .i64 fr, .int .i64 sq] W fun e w' => ∃ i : Nat, e = .returned (.int .i64 (i : Int)) ∧ Hid (i < s.length ∧ isK fr sq (g s i)) ∧ Below W.heap.size W w') := fun W hW => (rFind_c B lim _ s fr sq W (h.below hW) (by omega)).mono (by rintro e w' ⟨k, rfl, a, b⟩; obtain ⟨i, hi, e, hs⟩ := a.out.yes hk; subst e; exact ⟨i, rfl, ⟨hi, hs⟩, b⟩)
  rcases h.shape with ⟨rfl, rfl⟩ | ⟨gb, cap, rfl, hr⟩
  · simp at hp
  have HR : Hid (EvR B w gb cap s) := hr
  clear h hk hr
  have HW : Hid (∀ W (k : Nat), Below w.heap.size w W → k < s.length → Calls Try.prog 23 #[.agg #[.int .i64 lim, .slice (some ⟨gb, 0, none⟩) s.length cap], .int .i64 (k : Int)] W fun e w' => ∃ v', e = .returned (.agg #[.int .i64 lim, v']) ∧ Hid (EvS W.heap.size w' v' (s.eraseIdx k)) ∧ Below W.heap.size W w') := fun W k hW hk => rWithout_c B gb cap k lim s W (HR.out.at_ (hW.block gb HR.out.lt)) hn hk
  generalize hnn : s.length = n at *
  have HN : Hid (s.length = n) := hnn
  clear hnn
  go_enter Try.func24, Try.ntmps24
  go_wp2_with (first
    | (go_at_call 29; refine (HF.out _ (belA (belA (Below.refl _ _) _) _)).mono ?_; rintro e w2 ⟨i, rfl, HI, hb2⟩; obtain ⟨c0, c1, _, _⟩ := cells2 (w := w2) (b := w.heap.size) ((hb2.block _ (by simp; omega)).trans ((alOld (by simp)).trans (alAt rfl))); have q1 : decide ((i : Int) < 0) = false := (by rw [decide_eq_false_iff_not]; omega); have HB2 : Hid (Below w.heap.size w w2) := belT (belA (belA (Below.refl _ _) _) _) hb2; have HY2 : Hid (w2.heap[w.heap.size + 1]? = some (.cells #[.int .i64 0, .slice none 0 0] 29 (0, 0))) := (hb2.block _ (by simp)).trans (alAt (by simp)); clear hb2)
    | (go_at_call 23; refine (HW.out _ i HB2.out HI.out.1).mono ?_; rintro e w3 ⟨v3, rfl, HS3, hb3⟩; obtain ⟨d0, d1, p0, p1⟩ := cells2 (w := w3) (b := w.heap.size + 1) ((hb3.block _ (hLt HY2.out)).trans HY2.out); have hz : w.heap.size + 1 < w3.heap.size := (by have := hb3.size; have := hLt HY2.out; omega); obtain ⟨ao3, cap3, hv3⟩ := HS3.out.slice; rw [hv3]))
  refine bodyPost_ret (v := .tuple #[.agg #[.int .i64 lim, .slice ao3 (s.eraseIdx i).length cap3], .bool true]) (by simp [results, Try.results24, go_sem, d0, d1]) rfl ?_
  rw [hv3] at HS3
  refine ⟨i, _, rfl, ?_, HI.out, ((belT HB2.out hb3).setCell (p := ⟨w.heap.size + 1, 0, none⟩) (by show w.heap.size ≤ w.heap.size + 1; omega) _).setCell (p := ⟨w.heap.size + 1, 1, none⟩) (by show w.heap.size ≤ w.heap.size + 1; omega) _⟩
  have hs := HB2.out.size
  have hy := hLt HY2.out
  have kp : ∀ k, k ≠ w.heap.size + 1 → ((w3.setCell ⟨w.heap.size + 1, 0, none⟩ (.int .i64 lim)).setCell ⟨w.heap.size + 1, 1, none⟩ (.slice ao3 (s.eraseIdx i).length cap3)).heap[k]? = w3.heap[k]? := fun k a => (set1_block a).trans (set1_block a)
  exact own_mono (own_at HS3.out fun k hk => kp k (by have := (World.ownsRow.lt HS3.out k hk).1; omega)) hs
end Go.Proofs.Ytfjkhcpneehdjaa
