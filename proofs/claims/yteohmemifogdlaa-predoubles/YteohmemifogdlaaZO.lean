/- Layer 3 of the program: ifdef and ifndef. -/
import Derived.Test.YteohmemifogdlaaZN
import Derived.Test.YteohmemifogdlaaZK
namespace Go.Proofs.Yteohmemifogdlaa
open Go.RowKit Lg Go.Maps
set_option linter.unusedVariables false
set_option linter.unusedSimpArgs false

theorem grwS {b j : Nat} {w w' : World} {y : Value} (h : Below (w.setCell ⟨b, j, none⟩ y).heap.size (w.setCell ⟨b, j, none⟩ y) w') : Grw b (.slice none 0 0) w w' := by
  have hs : (w.setCell ⟨b, j, none⟩ y).heap.size = w.heap.size := by simp [World.setCell]
  exact ⟨h.os, h.tape, h.output, by have := h.size; omega, fun k hk h1 _ => (h.block k (by omega)).trans (Below.heap_setCell _ _ _ _ h1)⟩
set_option maxHeartbeats 2000000 in
theorem name_ok2 (B b : Nat) (src : List Tok) (r : RB) (D : DataW Value) (nD : Nat) (o : List Br) (kp : List Tok) (w : World) (h : Inv B b src r D nD o kp w) (k : Int) (x : ByteArray) (p : Int) (hat : r.at_ ≤ src.length) (y : List UInt8) (hn : nameAt (src.drop r.at_) = some y) :
    Calls Try.prog 37 #[.pointer (some ⟨b, 0, none⟩), .agg #[.int .i64 k, .string x, .int .i64 p]] w fun e w' => e = .returned (.string (S y)) ∧ (Inv B b src { r with at_ := r.at_ + 1 } D nD o kp w' ∧ Frm b r.mb B w w') ∧ Grw b (.slice none 0 0) w w' := by
  obtain ⟨c0, c1, c2, c3, c4, c5, c6, c7, cf⟩ := h.blk.at_
  rw [h.n.1] at c0
  have hbl := heap_lt h.blk
  have hne : b ≠ w.heap.size := by omega
  have hgl : r.g ≠ w.heap.size := by have := h.gB; have := h.Bw; omega
  have hgb := h.gb
  have hcap := h.n.2.2
  have hgw : r.g < w.heap.size := by have := h.gB; have := h.Bw; omega
  rcases nameAt_cases src r.at_ hat with ⟨he, hs⟩ | ⟨t, ht, hl, ⟨hk, hs⟩ | ⟨hk, hs⟩⟩
  · rw [hn] at hs; cases hs
  · rw [hn] at hs; cases hs
  · rw [hn] at hs
    injection hs with hs
    obtain ⟨q0, q1, q2⟩ := h.get ht
    have hI : ((r.at_ : Nat) : Int) < ((src.length : Nat) : Int) := by omega
    have hIb : (((r.at_ : Nat) : Int) == ((src.length : Nat) : Int)) = false := by rw [beq_eq_false_iff_ne]; omega
    rw [hk] at q0
    rw [← hs] at q1
    obtain ⟨sy, hsy⟩ : ∃ sy, sy = S y := ⟨_, rfl⟩
    rw [← hsy] at q1 ⊢
    have HE : Inv B b src { r with at_ := r.at_ + 1 } D nD o kp (w.setCell ⟨b, 4, none⟩ (.int .i64 ((r.at_ : Int) + 1))) ∧ Frm b r.mb B w (w.setCell ⟨b, 4, none⟩ (.int .i64 ((r.at_ : Int) + 1))) := ⟨h.set4 _ _ (by go_num), Frm.set⟩
    have HEE : Hid _ := HE
    have f4 := cf 4
    clear h hn hk ht hs hsy HE cf
    go_enter Try.func37, Try.ntmps37
    go_wp2
    go_region
    all_goals go_wp2
    all_goals go_region
    all_goals go_wp2
    all_goals go_ret
    all_goals exact ⟨rfl, ⟨HEE.out.1.same bxB.drew.drew, HEE.out.2.trans (Frm.of_below bxB.drew.drew HEE.out.1.Bw)⟩, grwS bxB.drew.drew⟩

theorem bxG {b : Nat} {w w1 : World} {x0 x1 x2 : Value} {t : TypeId} {w0 : World} (h0 : w0.heap = (w.alloc (.cells #[x0, x1, x2] t)).heap) (h : Grw b (.slice none 0 0) w0 w1) (hne : b < w.heap.size) : w1.cell? ⟨w.heap.size, 0, none⟩ = some x0 ∧ w1.cell? ⟨w.heap.size, 1, none⟩ = some x1 ∧ w1.cell? ⟨w.heap.size, 2, none⟩ = some x2 := by
  have e : w1.heap[w.heap.size]? = some (.cells #[x0, x1, x2] t (0, 0)) := (h.block w.heap.size (by rw [h0]; simp) (by omega) (by simp [Value.ownBlock])).trans (by rw [h0]; show (w.heap.push _)[w.heap.size]? = _; simp)
  refine ⟨?_, ?_, ?_⟩ <;> (rw [Lib.cell_of_heap e]; rfl)
theorem new4 (w : World) (n : Nat) (hn : w.heap.size = n) (a b c d : Value) (t : TypeId) (j : Nat) (u : Value) (h : [a, b, c, d][j]? = some u) : (w.alloc (.cells #[a, b, c, d] t)).cell? ((⟨n, 0, none⟩ : Addr).add j) = some u := by
  subst hn
  have e : ((⟨w.heap.size, 0, none⟩ : Addr).add j) = ⟨w.heap.size, j, none⟩ := by simp [Addr.add]; intro h; exact h.symm
  rw [e, World.cell?_alloc_at _ _ _ _ rfl]
  match j, h with
  | 0, h => exact h
  | 1, h => exact h
  | 2, h => exact h
  | 3, h => exact h
theorem one4 (p : Int) (a k t : Bool) : ∀ u ∈ [Value.int .i64 p, .bool a, .bool k, .bool t], u.oneCell' = true := by
  intro u hu
  simp at hu
  rcases hu with rfl | rfl | rfl | rfl <;> rfl
theorem if_blk {b : Nat} {r : RB} {w W w3 : World} {S : Obj} {row : Option Nat} (h : RBl b r w) (hg : W.grownBy w3 row) (hW : W.heap = w.heap.push S) (hne : row ≠ some b) : RBl b r w3 := by
  have hb := heap_lt h
  exact (hg.block b (by rw [hW]; simp; omega) (fun e => hne e.symm)).trans (by rw [hW, Array.getElem?_push, if_neg (by omega)]; exact h)
theorem if_end {B b : Nat} {src : List Tok} {r : RB} {D : DataW Value} {nD : Nat} {o : List Br} {kp : List Tok} {w W w3 : World} {S : Obj} {v v' : Value} {p : Nat} {a k : Bool} (h : Inv B b src r D nD o kp w) (hv : r.vo = v) (hg : W.grownBy w3 v.ownBlock) (hW : W.heap = w.heap.push S) (hos : W.os = w.os) (ht : W.tape = w.tape) (hout : W.output = w.output)
    (ho : w3.ownsRow B 54 4 v' (o.length + 1) (brcs o ++ [.int .i64 p, .bool a, .bool k, .bool false])) :
    Inv B b src { r with vo := v' } D nD (o ++ [⟨p, a, k, false⟩]) kp (w3.setCell ⟨b, 6, none⟩ v') ∧ Frm b r.mb B w (w3.setCell ⟨b, 6, none⟩ v') := by
  subst hv
  have hsz : W.heap.size = w.heap.size + 1 := by rw [hW]; simp
  have hblk : ∀ k, k < w.heap.size → some k ≠ r.vo.ownBlock → w3.heap[k]? = w.heap[k]? := fun k hk hne => (hg.block k (by omega) hne).trans (by rw [hW, Array.getElem?_push, if_neg (by omega)])
  have hb3 := if_blk h.blk hg hW (own_ne h.opn h.blk (by decide))
  have hm3 := map_block h.map (hblk _ h.map.lt (fun e => map_own h.map h.opn e.symm))
  have hk3 := own_block (w' := w3) h.kpt (fun k hk => hblk k (own_ge h.kpt k hk).2 (fun e => own_own h.kpt h.opn (by decide) k hk e.symm))
  have hf : Frm b r.mb B w (w3.setCell ⟨b, 6, none⟩ v') := by
    have h1 : Frm b r.mb B w w3 := ⟨hg.os.trans hos, hg.tape.trans ht, hg.output.trans hout, by have := hg.size; omega, fun k hk _ _ => hblk k (by have := h.Bw; omega) (fun e => by have := (own_ge h.opn k e.symm).1; omega)⟩
    exact h1.trans Frm.set
  refine ⟨⟨hb3.set6 v', map_block hm3 (Below.heap_setCell _ _ _ _ (map_ne hm3 hb3)), ?_, owns_set hk3 (own_ne hk3 hb3 (by decide)), h.bB, h.mB, h.gB, h.gb, h.gm, Nat.le_trans h.Bw hf.size, h.n, h.src_frm hf⟩, hf⟩
  rw [brcs_app, brcs_one, List.length_append]
  exact owns_set ho (own_ne ho hb3 (by decide))

set_option maxRecDepth 100000 in
set_option maxHeartbeats 2000000 in
theorem split_if_no (B b : Nat) (src : List Tok) (r : RB) (D : DataW Value) (nD : Nat) (o : List Br) (kp : List Tok) (w : World) (h : Inv B b src r D nD o kp w) (k : Int) (x : ByteArray) (p : Int) (hx1 : (x.toList == [101, 108, 115, 101]) = false) (hx2 : (x.toList == [101, 110, 100, 105, 102]) = false) (hat : r.at_ ≤ src.length) (hn : nameAt (src.drop r.at_) = none) :
    Calls Try.prog 26 #[.pointer (some ⟨b, 0, none⟩), .agg #[.int .i64 k, .string x, .int .i64 p]] w fun e w' => e = .panicked (pnc p 30) ∧ Below w.heap.size w w' := by
  have HM : ∀ w', Below w.heap.size w w' → Calls Try.prog 37 #[.pointer (some ⟨b, 0, none⟩), .agg #[.int .i64 k, .string x, .int .i64 p]] w' fun e w'' => e = .panicked (pnc p 30) ∧ Below w'.heap.size w' w'' := fun w' hb => name_no B b src r D nD o kp w' (h.same hb) k x p hat hn
  obtain ⟨c0, c1, c2, c3, c4, c5, c6, c7, cf⟩ := h.blk.at_
  have hbl := heap_lt h.blk
  have hne : b ≠ w.heap.size := by omega
  clear h hn cf
  go_enter Try.func26, Try.ntmps26
  go_wp2_with fail
  go_region_with (go_at_call 37; refine (HM _ (by first | exact bxB | exact bxB.drew)).mono ?_; rintro e w2 ⟨rfl, hw2⟩; refine dead ⟨rfl, rfl, bel (by first | exact bxB | exact bxB.drew) hw2⟩ w ?_)
  all_goals trivial
end Go.Proofs.Yteohmemifogdlaa
