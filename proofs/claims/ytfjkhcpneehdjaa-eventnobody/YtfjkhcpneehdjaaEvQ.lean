/- A queue that nobody made. -/
import Derived.Test.YtfjkhcpneehdjaaEvP
namespace Go.Proofs.Ytfjkhcpneehdjaa
open Go.RowKit Qu Go.Maps
set_option linter.unusedVariables false
set_option linter.unusedSimpArgs false
set_option maxRecDepth 100000

/-- a pointer to a queue that nobody made, whatever lies above -/
def Nob (w : World) (p : Option Addr) : Prop := ∀ W, Below w.heap.size w W → Calls Try.prog 20 #[.pointer p] W fun e w' => e = .returned (.bool false) ∧ w' = W
theorem Nob.up {w w' : World} {p : Option Addr} (h : Nob w p) (hb : Below w.heap.size w w') : Nob w' p := fun W hW => h W (belT hb hW)
set_option maxHeartbeats 8000000 in
theorem EventNobody_c (x : Ev) (w : World) : Calls Try.prog 5 #[.agg #[.int .i64 x.t, .int .i64 x.nd, .string x.v, .int .i64 x.fr, .int .i64 x.sq, .bool x.an]] w fun e w' => e = .returned (.bool true) ∧ Below w.heap.size w w' := by
  go_enter Try.func5, Try.ntmps5
  go_wp2
  obtain ⟨W3, hW3⟩ : ∃ W3, W3 = ((w.alloc (.cells #[.int .i64 x.t, .int .i64 x.nd, .string x.v, .int .i64 x.fr, .int .i64 x.sq, .bool x.an] 34)).alloc (.cells #[.pointer none, .int .i64 0, .slice none 0 0] 51)).alloc (.cells #[.pointer none, .pointer (some ⟨w.heap.size + 1, 0, none⟩)] 23) := ⟨_, rfl⟩
  have HB3 : Hid (Below w.heap.size w W3) := by rw [hW3]; exact belA (belA (belA (Below.refl _ _) _) _) _
  have hE : W3.heap[w.heap.size]? = some (.cells #[.int .i64 x.t, .int .i64 x.nd, .string x.v, .int .i64 x.fr, .int .i64 x.sq, .bool x.an] 34 (0, 0)) := by rw [hW3]; exact (alOld (by simp; omega)).trans ((alOld (by simp)).trans (alAt rfl))
  have hZ : W3.heap[w.heap.size + 1]? = some (.cells #[.pointer none, .int .i64 0, .slice none 0 0] 51 (0, 0)) := by rw [hW3]; exact (alOld (by simp)).trans (alAt (by simp))
  have hL : W3.heap[w.heap.size + 1 + 1]? = some (.cells #[.pointer none, .pointer (some ⟨w.heap.size + 1, 0, none⟩)] 23 (0, 0)) := by rw [hW3]; exact alAt (by simp)
  have HE : Hid (W3.heap[w.heap.size]? = some (.cells #[.int .i64 x.t, .int .i64 x.nd, .string x.v, .int .i64 x.fr, .int .i64 x.sq, .bool x.an] 34 (0, 0)) ∧ W3.heap[w.heap.size + 1 + 1]? = some (.cells #[.pointer none, .pointer (some ⟨w.heap.size + 1, 0, none⟩)] 23 (0, 0))) := ⟨hE, hL⟩
  have HN : Hid (Nob W3 none ∧ Nob W3 (some ⟨w.heap.size + 1, 0, none⟩)) := ⟨fun W _ => given_nil W, fun W hW => given_zero _ W (by rw [hW.cell (p := ⟨w.heap.size + 1, 0, none⟩) (hLt hZ), (cells3 hZ).1])⟩
  rw [← hW3]
  clear hW3 hE hZ hL
  have HAw : Hid (∀ W, Calls Try.prog 10 #[] W fun e w' => e = .returned (.bool true) ∧ Below W.heap.size W w') := awake14
  obtain ⟨E, hEn⟩ : ∃ E, E = w.heap.size := ⟨_, rfl⟩
  rw [← hEn] at HE HN ⊢
  have hnW : Hid (E = w.heap.size) := hEn
  clear hEn
  go_loopw [4] (fun s4 W => ∃ k : Nat, k ≤ 2 ∧ s4 = .int .i64 k ∧ Hid (Below W3.heap.size W3 W)) (fun s4 W => 2 - (intOf s4).toNat)
  case atStart => exact ⟨0, by omega, rfl, Below.refl _ _⟩
  case round =>
    obtain ⟨k, hk, rfl, HB⟩ := hrel
    by_cases hlt : k < 2
    · obtain ⟨p, hp, HNp⟩ : ∃ p, wr.cell? ⟨E + 1 + 1, k, none⟩ = some (.pointer p) ∧ Hid (Nob wr p) := by
        have hl := (HB.out.block _ (hLt HE.out.2)).trans HE.out.2
        rcases (by omega : k = 0 ∨ k = 1) with e | e
        · subst e; exact ⟨none, by rw [Lib.cell_of_heap hl]; rfl, HN.out.1.up HB.out⟩
        · subst e; exact ⟨_, by rw [Lib.cell_of_heap hl]; rfl, HN.out.2.up HB.out⟩
      have hl2 : E + 1 + 1 < wr.heap.size := World.block_lt_of_cell? wr ⟨E + 1 + 1, k, none⟩ hp
      have i1 : (0 : Int) ≤ (k : Int) := by omega
      have i2 : (k : Int) < 2 := by omega
      go_wp2_with (first
        | (have hg := hb1; go_at_call 16; refine (take_none p _ (fun W hW => len_no p W (HNp.out W (belT (belA hb1 _) hW)))).mono ?_; rintro e w2 ⟨rfl, hb2⟩)
        | (go_at_call 17; refine (min_none p _ (fun W hW => len_no p W (HNp.out W hW))).mono ?_; rintro e w1 ⟨rfl, hb1⟩; have p1 : w1.cell? ⟨E + 1 + 1, k, none⟩ = some (.pointer p) := (hb1.cell (p := ⟨E + 1 + 1, k, none⟩) hl2).trans hp; have z1 : E + 1 + 1 < w1.heap.size := (by have := hb1.size; omega)))
      obtain ⟨A, hA⟩ : ∃ A, A = w1.heap.size := ⟨_, rfl⟩
      obtain ⟨D, hD⟩ : ∃ D, D = w2.heap.size := ⟨_, rfl⟩
      obtain ⟨W5, hW5⟩ : ∃ W5, W5 = w2.alloc (.cells #[.int .i64 0, .int .i64 0, .string ⟨#[]⟩, .int .i64 0, .int .i64 0, .bool false] 34) := ⟨_, rfl⟩
      have b5 : Below wr.heap.size wr W5 := by rw [hW5]; exact belT (belT (belA hb1 _) hb2) (belA (Below.refl _ _) _)
      have HB5 : Hid (Below wr.heap.size wr W5) := b5
      have HN5 : Hid (Nob W5 p) := HNp.out.up b5
      obtain ⟨⟨a0, a1, a2, a3, a4, a5⟩, _⟩ := cell6 (w := W5) (b := A) (by rw [hW5]; exact (alOld (by rw [hA]; have := hb2.size; simp at this; omega)).trans ((hb2.block A (by rw [hA]; simp)).trans (alAt hA.symm)))
      obtain ⟨⟨d0, d1, d2, d3, d4, d5⟩, _⟩ := cell6 (w := W5) (b := D) (by rw [hW5]; exact alAt hD.symm)
      obtain ⟨⟨e0, e1, e2, e3, e4, e5⟩, _⟩ := cell6 (w := W5) (b := E) ((b5.block E (by omega)).trans ((HB.out.block E (hLt HE.out.1)).trans HE.out.1))
      have pp : W5.cell? ⟨E + 1 + 1, k, none⟩ = some (.pointer p) := (b5.cell (p := ⟨E + 1 + 1, k, none⟩) hl2).trans hp
      have lE : E < W5.heap.size := by have := b5.size; omega
      have lP : E + 1 + 1 < W5.heap.size := by have := b5.size; omega
      have lA : A < W5.heap.size := World.block_lt_of_cell? W5 ⟨A, 0, none⟩ a0
      have lD : D < W5.heap.size := World.block_lt_of_cell? W5 ⟨D, 0, none⟩ d0
      rw [← hA, ← hD, ← hW5]
      clear hA hD hW5 b5 hb1 hb2 hg p1 z1
      have hne : ∀ W, (binOp BinOp.neq 34 (.agg #[.int .i64 0, .int .i64 0, .string ⟨#[]⟩, .int .i64 0, .int .i64 0, .bool false]) (.agg #[.int .i64 0, .int .i64 0, .string ⟨#[]⟩, .int .i64 0, .int .i64 0, .bool false])).run Try.prog W = .ok (.bool false) W := fun W => by kernel_rfl
      have HP : Hid (Calls Try.prog 15 #[.pointer p, .agg #[.int .i64 x.t, .int .i64 x.nd, .string x.v, .int .i64 x.fr, .int .i64 x.sq, .bool x.an]] W5.drew fun e w' => e = .returned (.int .i64 1) ∧ Below W5.drew.heap.size W5.drew w') := put_nobody p x W5.drew (HN5.out.up (Below.refl _ _).drew)
      go_region_held (fun w' => w'.cell? ⟨E, 0, none⟩ = some (.int .i64 x.t) ∧ w'.cell? ⟨E, 1, none⟩ = some (.int .i64 x.nd) ∧ w'.cell? ⟨E, 2, none⟩ = some (.string x.v) ∧ w'.cell? ⟨E, 3, none⟩ = some (.int .i64 x.fr) ∧ w'.cell? ⟨E, 4, none⟩ = some (.int .i64 x.sq) ∧ w'.cell? ⟨E, 5, none⟩ = some (.bool x.an) ∧ w'.cell? ⟨A, 0, none⟩ = some (.int .i64 0) ∧ w'.cell? ⟨A, 1, none⟩ = some (.int .i64 0) ∧ w'.cell? ⟨A, 2, none⟩ = some (.string ⟨#[]⟩) ∧ w'.cell? ⟨A, 3, none⟩ = some (.int .i64 0) ∧ w'.cell? ⟨A, 4, none⟩ = some (.int .i64 0) ∧ w'.cell? ⟨A, 5, none⟩ = some (.bool false) ∧ w'.cell? ⟨D, 0, none⟩ = some (.int .i64 0) ∧ w'.cell? ⟨D, 1, none⟩ = some (.int .i64 0) ∧ w'.cell? ⟨D, 2, none⟩ = some (.string ⟨#[]⟩) ∧ w'.cell? ⟨D, 3, none⟩ = some (.int .i64 0) ∧ w'.cell? ⟨D, 4, none⟩ = some (.int .i64 0) ∧ w'.cell? ⟨D, 5, none⟩ = some (.bool false) ∧ w'.cell? ⟨E + 1 + 1, k, none⟩ = some (.pointer p)) (go_keep) (first
        | (go_at_call 15; refine HP.out.mono ?_; rintro e w6 ⟨rfl, hb6⟩; have xe0 : w6.cell? ⟨E, 0, none⟩ = some (.int .i64 x.t) := (hb6.cell (p := ⟨E, 0, none⟩) lE).trans e0; have xe1 : w6.cell? ⟨E, 1, none⟩ = some (.int .i64 x.nd) := (hb6.cell (p := ⟨E, 1, none⟩) lE).trans e1; have xe2 : w6.cell? ⟨E, 2, none⟩ = some (.string x.v) := (hb6.cell (p := ⟨E, 2, none⟩) lE).trans e2; have xe3 : w6.cell? ⟨E, 3, none⟩ = some (.int .i64 x.fr) := (hb6.cell (p := ⟨E, 3, none⟩) lE).trans e3; have xe4 : w6.cell? ⟨E, 4, none⟩ = some (.int .i64 x.sq) := (hb6.cell (p := ⟨E, 4, none⟩) lE).trans e4; have xe5 : w6.cell? ⟨E, 5, none⟩ = some (.bool x.an) := (hb6.cell (p := ⟨E, 5, none⟩) lE).trans e5; have xa0 : w6.cell? ⟨A, 0, none⟩ = some (.int .i64 0) := (hb6.cell (p := ⟨A, 0, none⟩) lA).trans a0; have xa1 : w6.cell? ⟨A, 1, none⟩ = some (.int .i64 0) := (hb6.cell (p := ⟨A, 1, none⟩) lA).trans a1; have xa2 : w6.cell? ⟨A, 2, none⟩ = some (.string ⟨#[]⟩) := (hb6.cell (p := ⟨A, 2, none⟩) lA).trans a2; have xa3 : w6.cell? ⟨A, 3, none⟩ = some (.int .i64 0) := (hb6.cell (p := ⟨A, 3, none⟩) lA).trans a3; have xa4 : w6.cell? ⟨A, 4, none⟩ = some (.int .i64 0) := (hb6.cell (p := ⟨A, 4, none⟩) lA).trans a4; have xa5 : w6.cell? ⟨A, 5, none⟩ = some (.bool false) := (hb6.cell (p := ⟨A, 5, none⟩) lA).trans a5; have xd0 : w6.cell? ⟨D, 0, none⟩ = some (.int .i64 0) := (hb6.cell (p := ⟨D, 0, none⟩) lD).trans d0; have xd1 : w6.cell? ⟨D, 1, none⟩ = some (.int .i64 0) := (hb6.cell (p := ⟨D, 1, none⟩) lD).trans d1; have xd2 : w6.cell? ⟨D, 2, none⟩ = some (.string ⟨#[]⟩) := (hb6.cell (p := ⟨D, 2, none⟩) lD).trans d2; have xd3 : w6.cell? ⟨D, 3, none⟩ = some (.int .i64 0) := (hb6.cell (p := ⟨D, 3, none⟩) lD).trans d3; have xd4 : w6.cell? ⟨D, 4, none⟩ = some (.int .i64 0) := (hb6.cell (p := ⟨D, 4, none⟩) lD).trans d4; have xd5 : w6.cell? ⟨D, 5, none⟩ = some (.bool false) := (hb6.cell (p := ⟨D, 5, none⟩) lD).trans d5; have xpp : w6.cell? ⟨E + 1 + 1, k, none⟩ = some (.pointer p) := (hb6.cell (p := ⟨E + 1 + 1, k, none⟩) lP).trans pp; have HG : Hid (∀ W, W = w6 → Calls Try.prog 20 #[.pointer p] W fun e w' => e = .returned (.bool false) ∧ w' = W) := (fun W hW => HN5.out W (by rw [hW]; exact belT (Below.refl _ _).drew hb6)))
        | (go_at_call 18; refine (cancel_nobody p _ _ _ (HG.out _ rfl)).mono ?_; rintro e w7 ⟨rfl, hw⟩; rw [hw]; clear hw)
        | (go_at_call 13; refine (len_no p _ (HG.out _ rfl)).mono ?_; rintro e w7 ⟨rfl, hw⟩; rw [hw]; clear hw)
        | (go_at_call 11; refine (copy_nobody p _ (HG.out _ rfl)).mono ?_; rintro e w7 ⟨rfl, hw⟩; rw [hw]; clear hw))
      all_goals (
        have HB6 : Hid (Below wr.heap.size wr w6) := belT HB5.out (belW (Below.refl _ _) hb6)
        clear e0 e1 e2 e3 e4 e5 a0 a1 a2 a3 a4 a5 d0 d1 d2 d3 d4 d5 hb6 hne
        go_wp2
        go_roundw
        case rel => exact ⟨k + 1, by omega, by go_num, belT HB.out HB6.out⟩
        case measure => simp [intOf]; omega)
    · obtain rfl : k = 2 := by omega
      go_wp2_with (first
        | (go_at_call 10; refine (HAw.out _).mono ?_; rintro e wA ⟨rfl, hbA⟩))
      go_ret
      exact ⟨rfl, belT HB3.out (belT HB.out hbA)⟩
end Go.Proofs.Ytfjkhcpneehdjaa
