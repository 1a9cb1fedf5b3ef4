/- Layer 3 of the program: ifdef, ifndef, else, endif. -/
import Derived.Test.YteohmemifogdlaaZI
import Derived.Deep.RegionWith
namespace Go.Proofs.Yteohmemifogdlaa
open Go.RowKit Lg Go.Maps
set_option linter.unusedVariables false
set_option linter.unusedSimpArgs false

theorem own_cut {w : World} {B e z n g cap : Nat} {xs : List Value} (h : w.ownsRow B e z (.slice (some ⟨g, 0, none⟩) (n + 1) cap) (n + 1) xs) : w.ownsRow B e z (.slice (some ⟨g, 0, none⟩) n cap) n (xs.take (n * z)) := by
  obtain ⟨h1, h2⟩ := h
  rcases h2 with ⟨h2, _⟩ | ⟨g', cap', cur, hv, hg, hh, q1, q2, q3, q4⟩
  · cases h2
  · injection hv with a1 a2 a3
    injection a1 with a1
    injection a1 with a1
    subst a1 a3
    have hle : n * z ≤ (n + 1) * z := Nat.mul_le_mul_right z (by omega)
    refine ⟨by rw [List.length_take, h1]; omega, Or.inr ⟨g, cap, cur, rfl, hg, hh, by omega, q2, q3, ?_⟩⟩
    rw [← q4, List.take_take, Nat.min_eq_left hle]
theorem brcs_drop (o : List Br) (n : Nat) (h : o.length = n + 1) : (brcs o).take (n * 4) = brcs o.dropLast := by
  obtain ⟨b, hb⟩ : ∃ b, o.getLast? = some b := by
    cases hg : o.getLast? with
    | none => rw [List.getLast?_eq_none_iff] at hg; rw [hg] at h; cases h
    | some b => exact ⟨b, rfl⟩
  have e : o = o.dropLast ++ [b] := by obtain ⟨l, rfl⟩ := List.getLast?_eq_some_iff.1 hb; simp
  have hl : (brcs o.dropLast).length = n * 4 := by rw [brcs_len, List.length_dropLast, h]; rfl
  conv => lhs; rw [e]
  rw [brcs_app, ← hl, List.take_left]
theorem Inv.set6 {B b : Nat} {src : List Tok} {r : RB} {D : DataW Value} {nD : Nat} {o o' : List Br} {kp : List Tok} {w : World} (h : Inv B b src r D nD o kp w) (y : Value) (ho : w.ownsRow B 54 4 y o'.length (brcs o')) : Inv B b src { r with vo := y } D nD o' kp (w.setCell ⟨b, 6, none⟩ y) where
  blk := h.blk.set6 y
  map := map_block h.map (Below.heap_setCell _ _ _ _ (map_ne h.map h.blk))
  opn := owns_set ho (own_ne ho h.blk (by decide))
  kpt := owns_set h.kpt (own_ne h.kpt h.blk (by decide))
  bB := h.bB
  mB := h.mB
  gB := h.gB
  gb := h.gb
  gm := h.gm
  Bw := by have := h.Bw; simp [World.setCell]; omega
  n := h.n
  src := h.src_frm Frm.set
/-- the room is left, the last one is not -/
theorem endif_end {B b : Nat} {src : List Tok} {r : RB} {D : DataW Value} {nD : Nat} {o : List Br} {kp : List Tok} {w : World} (h : Inv B b src r D nD o kp w) {g n cap : Nat} (hv : r.vo = .slice (some ⟨g, 0, none⟩) (n + 1) cap) (hn : o.length = n + 1) :
    Inv B b src { r with vo := .slice (some ⟨g, 0, none⟩) n cap } D nD o.dropLast kp (w.setCell ⟨b, 6, none⟩ (.slice (some ⟨g, 0, none⟩) n cap)) ∧ Frm b r.mb B w (w.setCell ⟨b, 6, none⟩ (.slice (some ⟨g, 0, none⟩) n cap)) := by
  have ho := h.opn
  rw [hv, hn] at ho
  have h1 := own_cut ho
  rw [brcs_drop o n hn] at h1
  exact ⟨h.set6 _ (by rw [List.length_dropLast, hn]; exact h1), Frm.set⟩

set_option maxRecDepth 100000 in
set_option maxHeartbeats 2000000 in
theorem split_else_no (B b : Nat) (src : List Tok) (r : RB) (D : DataW Value) (nD : Nat) (o : List Br) (kp : List Tok) (w : World) (h : Inv B b src r D nD o kp w) (k : Int) (x : ByteArray) (p : Int) (hx : (x.toList == [101, 108, 115, 101]) = true) (ho : o.getLast? = none ∨ ∃ br, o.getLast? = some br ∧ br.t = true) (hol : o.length ≤ 1000000) :
    Calls Try.prog 26 #[.pointer (some ⟨b, 0, none⟩), .agg #[.int .i64 k, .string x, .int .i64 p]] w fun e w' => e = .panicked (pnc p 30) ∧ Below w.heap.size w w' := by
  have HT : ∀ w', Below w.heap.size w w' → Calls Try.prog 35 #[.pointer (some ⟨b, 0, none⟩), .agg #[.int .i64 k, .string x, .int .i64 p]] w' fun e w'' => e = .panicked (pnc p 30) ∧ Below w'.heap.size w' w'' := fun w' hb => by
    rcases ho with ho | ⟨br, h1, h2⟩
    · exact turn_none B b src r D nD o kp w' (h.same hb) k x p (by simpa using ho)
    · exact turn_bad B b src r D nD o kp w' (h.same hb) k x p br h1 h2 hol
  clear h ho
  go_enter Try.func26, Try.ntmps26
  go_wp2_with (first | (go_at_call 35; refine (HT _ bxB).mono ?_; rintro e w' ⟨rfl, hw⟩))
  exact ⟨rfl, rfl, bel bxB hw⟩
set_option maxRecDepth 100000 in
set_option maxHeartbeats 2000000 in
theorem split_else (B b : Nat) (src : List Tok) (r : RB) (D : DataW Value) (nD : Nat) (o : List Br) (kp : List Tok) (w : World) (h : Inv B b src r D nD o kp w) (k : Int) (x : ByteArray) (p : Int) (hx : (x.toList == [101, 108, 115, 101]) = true) (br : Br) (ho : o.getLast? = some br) (ht : br.t = false) (hol : o.length ≤ 1000000) :
    Calls Try.prog 26 #[.pointer (some ⟨b, 0, none⟩), .agg #[.int .i64 k, .string x, .int .i64 p]] w fun e w' => e = .returned (.tuple #[]) ∧ (Inv B b src r D nD (o.dropLast ++ [⟨br.p, br.a, br.a && !br.k, true⟩]) kp w' ∧ Frm b r.mb B w w') := by
  have HT : ∀ w', Below w.heap.size w w' → Calls Try.prog 35 #[.pointer (some ⟨b, 0, none⟩), .agg #[.int .i64 k, .string x, .int .i64 p]] w' fun e w'' => e = .returned (.tuple #[]) ∧ (Inv B b src r D nD (o.dropLast ++ [⟨br.p, br.a, br.a && !br.k, true⟩]) kp w'' ∧ Frm b r.mb B w w'') := fun w' hb => (turn_ok B b src r D nD o kp w' (h.same hb) k x p br ho ht hol).mono fun e w'' q => ⟨q.1, q.2.1, (Frm.of_below hb h.Bw).trans q.2.2⟩
  clear h ho
  go_enter Try.func26, Try.ntmps26
  go_wp2_with (first | (go_at_call 35; refine (HT _ bxB).mono ?_; rintro e w' ⟨rfl, hw⟩))
  go_end0
  exact ⟨rfl, hw⟩
set_option maxRecDepth 100000 in
set_option maxHeartbeats 2000000 in
theorem split_endif_no (B b : Nat) (src : List Tok) (r : RB) (D : DataW Value) (nD : Nat) (o : List Br) (kp : List Tok) (w : World) (h : Inv B b src r D nD o kp w) (k : Int) (x : ByteArray) (p : Int) (hx0 : (x.toList == [101, 108, 115, 101]) = false) (hx : (x.toList == [101, 110, 100, 105, 102]) = true) (ho : o = []) :
    Calls Try.prog 26 #[.pointer (some ⟨b, 0, none⟩), .agg #[.int .i64 k, .string x, .int .i64 p]] w fun e w' => e = .panicked (pnc p 30) ∧ Below w.heap.size w w' := by
  subst ho
  obtain ⟨ao, cap, hv⟩ := slice_of h.opn
  have HT : ∀ w', Below w.heap.size w w' → Calls Try.prog 36 #[.pointer (some ⟨b, 0, none⟩), .agg #[.int .i64 k, .string x, .int .i64 p]] w' fun e w'' => e = .panicked (pnc p 30) ∧ Below w'.heap.size w' w'' := fun w' hb => innermost_none b r k x p w' (h.same hb).blk ao cap hv
  clear h hv
  go_enter Try.func26, Try.ntmps26
  go_wp2_with (first | (go_at_call 36; refine (HT _ bxB).mono ?_; rintro e w' ⟨rfl, hw⟩))
  exact ⟨rfl, rfl, bel bxB hw⟩
set_option maxRecDepth 100000 in
set_option maxHeartbeats 2000000 in
theorem split_endif (B b : Nat) (src : List Tok) (r : RB) (D : DataW Value) (nD : Nat) (o : List Br) (kp : List Tok) (w : World) (h : Inv B b src r D nD o kp w) (k : Int) (x : ByteArray) (p : Int) (hx0 : (x.toList == [101, 108, 115, 101]) = false) (hx : (x.toList == [101, 110, 100, 105, 102]) = true) (ho : o ≠ []) (hol : o.length ≤ 1000000) :
    Calls Try.prog 26 #[.pointer (some ⟨b, 0, none⟩), .agg #[.int .i64 k, .string x, .int .i64 p]] w fun e w' => e = .returned (.tuple #[]) ∧ ∃ v, (Inv B b src { r with vo := v } D nD o.dropLast kp w' ∧ Frm b r.mb B w w') := by
  obtain ⟨n, hn⟩ : ∃ n, o.length = n + 1 := by cases o with | nil => exact absurd rfl ho | cons c l => exact ⟨l.length, rfl⟩
  obtain ⟨g, cap, hv, h1, h2, h3, h4, h5⟩ := own_some2 h.opn (by omega)
  rw [hn] at hv h3
  have hcap : cap ≤ 9223372036854775807 := by have := h3.2; unfold maxLen at this; omega
  have HT : ∀ w', Below w.heap.size w w' → Calls Try.prog 36 #[.pointer (some ⟨b, 0, none⟩), .agg #[.int .i64 k, .string x, .int .i64 p]] w' fun e w'' => e = .returned (.pointer (some ⟨g, n * 4, none⟩)) ∧ Below w'.heap.size w' w'' := fun w' hb => innermost_some b r k x p w' (h.same hb).blk g n cap hv (by omega)
  have HE : ∀ w', Below w.heap.size w w' → w'.cell? ⟨b, 6, none⟩ = some (.slice (some ⟨g, 0, none⟩) (n + 1) cap) ∧ w'.frozen? ⟨b, 6, none⟩ = false := fun w' hb => by
    obtain ⟨_, _, _, _, _, _, c6, _, cf⟩ := (h.same hb).blk.at_
    exact ⟨by rw [c6, hv], cf 6⟩
  have HX : ∀ w', Below w.heap.size w w' → Inv B b src { r with vo := .slice (some ⟨g, 0, none⟩) n cap } D nD o.dropLast kp (w'.setCell ⟨b, 6, none⟩ (.slice (some ⟨g, 0, none⟩) n cap)) ∧ Frm b r.mb B w (w'.setCell ⟨b, 6, none⟩ (.slice (some ⟨g, 0, none⟩) n cap)) := fun w' hb => by
    have := endif_end (h.same hb) hv hn
    exact ⟨this.1, (Frm.of_below hb h.Bw).trans this.2⟩
  have HEE : Hid _ := HE
  have HXX : Hid _ := HX
  have hcp : n + 1 ≤ cap := h3.1
  have hn2 : n ≤ 1000000 := by omega
  clear h ho h4 h5 HE HX hv h3
  go_enter Try.func26, Try.ntmps26
  go_wp2_with (first | (go_at_call 36; refine (HT _ bxB).mono ?_; rintro e w1 ⟨rfl, hw⟩; obtain ⟨c6, f6⟩ := HEE.out _ (bel bxB hw)))
  go_region
  all_goals go_wp2
  all_goals go_end0
  all_goals exact ⟨rfl, _, (HXX.out w1 (bel bxB hw)).1.same (Below.refl _ _).drew, (HXX.out w1 (bel bxB hw)).2.trans (Frm.of_below (Below.refl _ _).drew (HXX.out w1 (bel bxB hw)).1.Bw)⟩
end Go.Proofs.Yteohmemifogdlaa
