/- Layer 3 of the program: else. -/
import Derived.Test.YteohmemifogdlaaZE
namespace Go.Proofs.Yteohmemifogdlaa
open Go.RowKit Lg Go.Maps
set_option linter.unusedVariables false
set_option linter.unusedSimpArgs false

theorem own_some2 {w : World} {B e z n : Nat} {v : Value} {xs : List Value} (h : w.ownsRow B e z v n xs) (hn : 0 < n) : ∃ g cap, v = .slice (some ⟨g, 0, none⟩) n cap ∧ B ≤ g ∧ g < w.heap.size ∧ (n ≤ cap ∧ cap ≤ maxLen) ∧ (∀ j u, xs[j]? = some u → w.cell? ⟨g, j, none⟩ = some u) ∧ (∀ j, w.frozen? ⟨g, j, none⟩ = false) := by
  obtain ⟨g, cap, rfl, h1, h2, h3, h4⟩ := own_some h hn
  rcases h.2 with ⟨_, h5⟩ | ⟨g', cap', cur, hv, hg, hh, hc1, hc2, hc3, hc4⟩
  · omega
  · injection hv with a1 a2 a3
    injection a1 with a1
    injection a1 with a1
    subst a1 a3
    exact ⟨g, cap, rfl, h1, h2, ⟨hc1, hc2⟩, h4, fun j => Lib.frozen_of_heap hh j⟩
theorem Inv.opened {B b : Nat} {src : List Tok} {r : RB} {D : DataW Value} {nD : Nat} {o o' : List Br} {kp : List Tok} {w w' : World} (h : Inv B b src r D nD o kp w) (hos : w'.os = w.os) (ht : w'.tape = w.tape) (hout : w'.output = w.output) (hsz : w.heap.size ≤ w'.heap.size)
    (hb : ∀ k, k < w.heap.size → some k ≠ r.vo.ownBlock → w'.heap[k]? = w.heap[k]?) (ho : w'.ownsRow B 54 4 r.vo o'.length (brcs o')) : Inv B b src r D nD o' kp w' ∧ Frm b r.mb B w w' := by
  have hf : Frm b r.mb B w w' := ⟨hos, ht, hout, hsz, fun k hk _ _ => hb k (by have := h.Bw; omega) (fun e => by have := (own_ge h.opn k e.symm).1; omega)⟩
  refine ⟨⟨(hb b (heap_lt h.blk) (fun e => own_ne h.opn h.blk (by decide) e.symm)).trans h.blk, map_block h.map (hb _ h.map.lt (fun e => map_own h.map h.opn e.symm)), ho, own_block h.kpt (fun k hk => hb k (own_ge h.kpt k hk).2 (fun e => own_own h.kpt h.opn (by decide) k hk e.symm)), h.bB, h.mB, h.gB, h.gb, h.gm, Nat.le_trans h.Bw hsz, h.n, h.src_frm hf⟩, hf⟩
theorem turn_end {B b : Nat} {src : List Tok} {r : RB} {D : DataW Value} {nD : Nat} {o : List Br} {kp : List Tok} {w : World} (h : Inv B b src r D nD o kp w) {br : Br} {g n cap : Nat} {kk : Bool} (hv : r.vo = .slice (some ⟨g, 0, none⟩) (n + 1) cap) (hl : o.getLast? = some br) (hn : o.length = n + 1) :
    Inv B b src r D nD (o.dropLast ++ [⟨br.p, br.a, kk, true⟩]) kp ((w.setCell ⟨g, n * 4 + 3, none⟩ (.bool true)).setCell ⟨g, n * 4 + 2, none⟩ (.bool kk)) ∧ Frm b r.mb B w ((w.setCell ⟨g, n * 4 + 3, none⟩ (.bool true)).setCell ⟨g, n * 4 + 2, none⟩ (.bool kk)) := by
  have ho := h.opn
  rw [hv, hn] at ho
  have h1 := own_in (y := .bool true) ho (show n * 4 + 3 < (n + 1) * 4 by omega)
  have h2 := own_in (y := .bool kk) h1 (show n * 4 + 2 < (n + 1) * 4 by omega)
  rw [brcs_set o br kk hl n hn] at h2
  refine h.opened rfl rfl rfl (by simp [World.setCell]) (fun k hk e => ?_) (by rw [hv, List.length_append, List.length_dropLast, hn]; exact h2)
  have hk2 : k ≠ g := fun e2 => e (by rw [hv, e2]; rfl)
  rw [Below.heap_setCell _ _ _ _ hk2, Below.heap_setCell _ _ _ _ hk2]
theorem bx3 {w w1 : World} {a b c : Value} {t : TypeId} (h : Below (w.alloc (.cells #[a, b, c] t)).heap.size (w.alloc (.cells #[a, b, c] t)) w1) : w1.cell? ⟨w.heap.size, 0, none⟩ = some a ∧ w1.cell? ⟨w.heap.size, 1, none⟩ = some b ∧ w1.cell? ⟨w.heap.size, 2, none⟩ = some c ∧ (∀ j, w1.frozen? ⟨w.heap.size, j, none⟩ = false) := by
  have e : w1.heap[w.heap.size]? = some (.cells #[a, b, c] t (0, 0)) := (h.block w.heap.size (by simp)).trans (by show (w.heap.push _)[w.heap.size]? = _; simp)
  refine ⟨?_, ?_, ?_, fun j => Lib.frozen_of_heap e j⟩ <;> (rw [Lib.cell_of_heap e]; rfl)
theorem last_pos {o : List Br} {b : Br} (h : o.getLast? = some b) : ∃ n, o.length = n + 1 := by
  cases o with
  | nil => cases h
  | cons a l => exact ⟨l.length, rfl⟩

set_option maxHeartbeats 1000000 in
theorem turn_none (B b : Nat) (src : List Tok) (r : RB) (D : DataW Value) (nD : Nat) (o : List Br) (kp : List Tok) (w : World) (h : Inv B b src r D nD o kp w) (k : Int) (x : ByteArray) (p : Int) (ho : o = []) :
    Calls Try.prog 35 #[.pointer (some ⟨b, 0, none⟩), .agg #[.int .i64 k, .string x, .int .i64 p]] w fun e w' => e = .panicked (pnc p 30) ∧ Below w.heap.size w w' := by
  subst ho
  obtain ⟨ao, cap, hv⟩ := slice_of h.opn
  have HI : ∀ w', Below w.heap.size w w' → Calls Try.prog 36 #[.pointer (some ⟨b, 0, none⟩), .agg #[.int .i64 k, .string x, .int .i64 p]] w' fun e w'' => e = .panicked (pnc p 30) ∧ Below w'.heap.size w' w'' := fun w' hb => innermost_none b r k x p w' (h.same hb).blk ao cap hv
  clear h hv
  go_enter Try.func35, Try.ntmps35
  go_wp2_with (first | (go_at_call 36; refine (HI _ (belA (Below.refl _ _) _)).mono ?_; rintro e w' ⟨rfl, hw⟩))
  exact ⟨rfl, rfl, bel (belA (Below.refl _ _) _) hw⟩
set_option maxHeartbeats 1000000 in
theorem turn_bad (B b : Nat) (src : List Tok) (r : RB) (D : DataW Value) (nD : Nat) (o : List Br) (kp : List Tok) (w : World) (h : Inv B b src r D nD o kp w) (k : Int) (x : ByteArray) (p : Int) (br : Br) (ho : o.getLast? = some br) (ht : br.t = true) (hol : o.length ≤ 1000000) :
    Calls Try.prog 35 #[.pointer (some ⟨b, 0, none⟩), .agg #[.int .i64 k, .string x, .int .i64 p]] w fun e w' => e = .panicked (pnc p 30) ∧ Below w.heap.size w w' := by
  obtain ⟨n, hn⟩ := last_pos ho
  obtain ⟨g, cap, hv, h1, h2, h3, h4, h5⟩ := own_some2 h.opn (by omega)
  rw [hn] at hv
  have hlast := last_of ho
  rw [hn] at hlast
  have c3 := h4 _ _ (brcs_at hlast).2.2.2
  rw [ht] at c3
  have C3 : ∀ w', Below w.heap.size w w' → w'.cell? ⟨g, n * 4 + 3, none⟩ = some (.bool true) := fun w' hb => (hb.cell (p := ⟨g, n * 4 + 3, none⟩) h2).trans c3
  have HI : ∀ w', Below w.heap.size w w' → Calls Try.prog 36 #[.pointer (some ⟨b, 0, none⟩), .agg #[.int .i64 k, .string x, .int .i64 p]] w' fun e w'' => e = .returned (.pointer (some ⟨g, n * 4, none⟩)) ∧ Below w'.heap.size w' w'' := fun w' hb => innermost_some b r k x p w' (h.same hb).blk g n cap hv (by omega)
  have HC : Hid _ := C3
  clear h hv h4 h5 c3 C3 ho hlast
  go_enter Try.func35, Try.ntmps35
  go_wp2_with (first | (go_at_call 36; refine (HI _ (belA (Below.refl _ _) _)).mono ?_; rintro e w1 ⟨rfl, hw1⟩; have q3 := HC.out _ (bel (belA (Below.refl _ _) _) hw1); obtain ⟨d0, d1, d2, df⟩ := bx3 hw1) | (go_at_call 19; refine (giveUp_c _ _ _).mono ?_; rintro e w' ⟨rfl, hw⟩; have hw2 := hw.symm; subst hw2))
  exact ⟨rfl, rfl, bel (belA (Below.refl _ _) _) hw1⟩
set_option maxHeartbeats 1000000 in
theorem turn_ok (B b : Nat) (src : List Tok) (r : RB) (D : DataW Value) (nD : Nat) (o : List Br) (kp : List Tok) (w : World) (h : Inv B b src r D nD o kp w) (k : Int) (x : ByteArray) (p : Int) (br : Br) (ho : o.getLast? = some br) (ht : br.t = false) (hol : o.length ≤ 1000000) :
    Calls Try.prog 35 #[.pointer (some ⟨b, 0, none⟩), .agg #[.int .i64 k, .string x, .int .i64 p]] w fun e w' => e = .returned (.tuple #[]) ∧ (Inv B b src r D nD (o.dropLast ++ [⟨br.p, br.a, br.a && !br.k, true⟩]) kp w' ∧ Frm b r.mb B w w') := by
  obtain ⟨n, hn⟩ := last_pos ho
  obtain ⟨g, cap, hv, h1, h2, h3, h4, h5⟩ := own_some2 h.opn (by omega)
  rw [hn] at hv
  have hlast := last_of ho
  rw [hn] at hlast
  have c1 := h4 _ _ (brcs_at hlast).2.1
  have c2 := h4 _ _ (brcs_at hlast).2.2.1
  have c3 := h4 _ _ (brcs_at hlast).2.2.2
  rw [ht] at c3
  have CC : ∀ w', Below w.heap.size w w' → w'.cell? ⟨g, n * 4 + 1, none⟩ = some (.bool br.a) ∧ w'.cell? ⟨g, n * 4 + 2, none⟩ = some (.bool br.k) ∧ w'.cell? ⟨g, n * 4 + 3, none⟩ = some (.bool false) ∧ (∀ j, w'.frozen? ⟨g, j, none⟩ = false) := fun w' hb => ⟨(hb.cell (p := ⟨g, n * 4 + 1, none⟩) h2).trans c1, (hb.cell (p := ⟨g, n * 4 + 2, none⟩) h2).trans c2, (hb.cell (p := ⟨g, n * 4 + 3, none⟩) h2).trans c3, fun j => (hb.frozen (p := ⟨g, j, none⟩) h2).trans (h5 j)⟩
  have HI : ∀ w', Below w.heap.size w w' → Calls Try.prog 36 #[.pointer (some ⟨b, 0, none⟩), .agg #[.int .i64 k, .string x, .int .i64 p]] w' fun e w'' => e = .returned (.pointer (some ⟨g, n * 4, none⟩)) ∧ Below w'.heap.size w' w'' := fun w' hb => innermost_some b r k x p w' (h.same hb).blk g n cap hv (by omega)
  have HE : ∀ w', Below w.heap.size w w' → ∀ kk, kk = (br.a && !br.k) → Inv B b src r D nD (o.dropLast ++ [⟨br.p, br.a, br.a && !br.k, true⟩]) kp ((w'.setCell ⟨g, n * 4 + 3, none⟩ (.bool true)).setCell ⟨g, n * 4 + 2, none⟩ (.bool kk)) ∧ Frm b r.mb B w ((w'.setCell ⟨g, n * 4 + 3, none⟩ (.bool true)).setCell ⟨g, n * 4 + 2, none⟩ (.bool kk)) := fun w' hb kk hk => by
    subst hk
    have := turn_end (kk := (br.a && !br.k)) (h.same hb) hv ho hn
    exact ⟨this.1, (Frm.of_below hb h.Bw).trans this.2⟩
  have HC : Hid _ := CC
  have HEE : Hid _ := HE
  clear h hv h4 h5 c1 c2 c3 CC HE ho hlast
  cases ha : br.a <;> cases hk : br.k
  all_goals
    rw [ha, hk] at HEE HC
    go_enter Try.func35, Try.ntmps35
    go_wp2_with (first | (go_at_call 36; refine (HI _ (belA (Below.refl _ _) _)).mono ?_; rintro e w1 ⟨rfl, hw1⟩; obtain ⟨q1, q2, q3, qf⟩ := HC.out _ (bel (belA (Below.refl _ _) _) hw1); have f3 := qf (n * 4 + 3); have f2 := qf (n * 4 + 2)))
    go_end0
    refine ⟨rfl, HEE.out w1 (bel (belA (Below.refl _ _) _) hw1) _ (by first | rfl | simp)⟩
end Go.Proofs.Yteohmemifogdlaa
