/- Layer 3 of the program: undef; any tick that is no part's. -/
import Derived.Test.YteohmemifogdlaaZQ
import Derived.Deep.RegionHeld3
namespace Go.Proofs.Yteohmemifogdlaa
open Go.RowKit Lg Go.Maps
set_option linter.unusedVariables false
set_option linter.unusedSimpArgs false

theorem step_delete_own {P : Program} {ops : Array Oper} {o : Oper} {a : Act} {w : World} {K : Act → World → Prop} {Q : Exit → Act → World → Prop} {E : Prop}
    (hg : o.guard = none) (m x : Operand) (t k : TypeId) (hop : o.op = Op.call { callee := Callee.builtin Builtin.delete, args := #[m, x], argTypes := #[t, k] })
    (e : TypeId) (Kd : Keyed P k) (ht : P.underlying t = some (.map k e)) (R : Value → Option (DataW Value × List MemPlace)) (b n : Nat) (D : DataW Value)
    (hm : a.eval m = .map (some b)) (hown : w.ownsMap P k R b n D) (key : Value) (kl : Lit) (hx : a.eval x = key) (hkey : keyOf P k key = some kl)
    (hK : ∀ w', w'.ownsMap P k R b n (D.del kl) → w.grownBy w' (some b) → K (a.put o.dst (.tuple #[])) w') :
    if Region.wanted o (yielded ops a.tmps) = true then Oper.wp P o a w K Q else E := by
  have hw : Region.wanted o (yielded ops a.tmps) = true := by simp [Region.wanted, hg]
  rw [if_pos hw]
  obtain ⟨w', hrun, r1, r2⟩ := hown.drop Kd ht hkey o.type
  unfold Oper.wp
  simp [execOp, hop, resolve, invoke, builtin, hm, hx, hrun, Result.andThen]
  exact hK w' r1 r2.grown
theorem bxH2 {b : Nat} {w w1 : World} {x0 x1 x2 : Value} {t : TypeId} {w0 : World} (h0 : w0.heap = (w.alloc (.cells #[x0, x1, x2] t)).heap) (h : Grw b (.slice none 0 0) w0 w1) (hne : b < w.heap.size) : w1.heap[w.heap.size]? = some (.cells #[x0, x1, x2] t (0, 0)) := (h.block w.heap.size (by rw [h0]; simp) (by omega) (by simp [Value.ownBlock])).trans (by rw [h0]; show (w.heap.push _)[w.heap.size]? = _; simp)
theorem delT {T m n : Nat} {w2 w3 : World} {x0 x1 x2 : Value} {t : TypeId} {D : DataW Value} (hT : w2.heap[T]? = some (.cells #[x0, x1, x2] t (0, 0))) (hm : w2.ownsMap Try.prog 9 rdV m n D) (hg : w2.grownBy w3 (some m)) : w3.cell? ⟨T, 0, none⟩ = some x0 ∧ w3.cell? ⟨T, 1, none⟩ = some x1 ∧ w3.cell? ⟨T, 2, none⟩ = some x2 := by
  have hne : T ≠ m := by
    rintro rfl
    obtain ⟨es, clock, h1, _⟩ := hm
    rw [hT] at h1; cases h1
  have e : w3.heap[T]? = some (.cells #[x0, x1, x2] t (0, 0)) := (hg.block T (heap_lt hT) (fun e => hne (by injection e))).trans hT
  refine ⟨?_, ?_, ?_⟩ <;> (rw [Lib.cell_of_heap e]; rfl)

set_option maxRecDepth 100000 in
set_option maxHeartbeats 4000000 in
theorem tick_undef (B b : Nat) (src : List Tok) (r : RB) (D : DataW Value) (nD : Nat) (o : List Br) (kp : List Tok) (w : World) (h : Inv B b src r D nD o kp w) (N : Nm) (hN : NmOk r.g src D N) (k : Int) (x : ByteArray) (p : Int) (hx0 : (x.toList == [100, 101, 102, 105, 110, 101]) = false) (hx : (x.toList == [117, 110, 100, 101, 102]) = true) (hat : r.at_ ≤ src.length) (y : List UInt8) (hy : y.length ≤ 65536) (hn : nameAt (src.drop r.at_) = some y) :
    Calls Try.prog 28 #[.pointer (some ⟨b, 0, none⟩), .agg #[.int .i64 k, .string x, .int .i64 p]] w fun e w' => e = .returned (.tuple #[]) ∧ (∃ D', Inv B b src { r with at_ := r.at_ + 1 } D' nD o kp w' ∧ NmOk r.g src D' (N.del y)) ∧ Frm b r.mb B w w' := by
  obtain ⟨sy, hsy⟩ : ∃ sy, sy = S y := ⟨_, rfl⟩
  have hsl : L sy = y := by rw [hsy, L_S]
  have hss : sy.size ≤ maxLen := by rw [← len_L, hsl]; unfold maxLen; omega
  have hbl := heap_lt h.blk
  have hne : b ≠ w.heap.size := by omega
  obtain ⟨c0, c1, c2, c3, c4, c5, c6, c7, cf⟩ := h.blk.at_
  have HM : ∀ w', Below w.heap.size w w' → w'.heap = (w.alloc (.cells #[.int .i64 k, .string x, .int .i64 p] 35)).heap → Calls Try.prog 37 #[.pointer (some ⟨b, 0, none⟩), .agg #[.int .i64 k, .string x, .int .i64 p]] w' fun e w2 => e = .returned (.string sy) ∧ w2.cell? ⟨w.heap.size, 0, none⟩ = some (.int .i64 k) ∧ w2.cell? ⟨w.heap.size, 1, none⟩ = some (.string x) ∧ w2.cell? ⟨w.heap.size, 2, none⟩ = some (.int .i64 p) ∧ w2.cell? ⟨b, 5, none⟩ = some (.map (some r.mb)) ∧ Hid (w2.heap[w.heap.size]? = some (.cells #[.int .i64 k, .string x, .int .i64 p] 35 (0, 0))) ∧ Hid (Inv B b src { r with at_ := r.at_ + 1 } D nD o kp w2) ∧ Hid (Frm b r.mb B w w2) := fun w' hb hW => by
    refine (name_ok2 B b src r D nD o kp w' (h.same hb) k x p hat y hn).mono fun e w2 q => ?_
    obtain ⟨t0, t1, t2⟩ := bxG hW q.2.2 hbl
    obtain ⟨d0, d1, d2, d3, d4, d5, d6, d7, df⟩ := q.2.1.1.blk.at_
    exact ⟨by rw [hsy]; exact q.1, t0, t1, t2, d5, bxH2 hW q.2.2 hbl, q.2.1.1, (Frm.of_below hb h.Bw).trans q.2.1.2⟩
  have HX : ∀ w2 w3, Inv B b src { r with at_ := r.at_ + 1 } D nD o kp w2 → w3.ownsMap Try.prog 9 rdV r.mb nD (D.del (.string (L sy))) → w2.grownBy w3 (some r.mb) → (∃ D', Inv B b src { r with at_ := r.at_ + 1 } D' nD o kp w3 ∧ NmOk r.g src D' (N.del y)) ∧ Frm b r.mb B w2 w3 := fun w2 w3 hI hm hg => by
    have := hI.mapped hm hg
    rw [hsl] at this
    exact ⟨⟨_, this.1, nm_del hN y⟩, this.2⟩
  have HXX : Hid _ := HX
  have HMM : Hid _ := HM
  clear h hN hn HX HM hsy hsl c0 c1 c2 c3 c4 c6 c7 cf
  go_enter Try.func28, Try.ntmps28
  go_wp2_with fail
  go_region_held3 (fun w' => w'.cell? ⟨b, 5, none⟩ = some (.map (some r.mb)) ∧ w'.cell? ⟨w.heap.size, 0, none⟩ = some (.int .i64 k) ∧ w'.cell? ⟨w.heap.size, 1, none⟩ = some (.string x) ∧ w'.cell? ⟨w.heap.size, 2, none⟩ = some (.int .i64 p)) (go_keep) (first
    | (refine step_delete_own rfl _ _ 40 9 rfl 22 lawS Try.underlying40 rdV r.mb nD D (by simp [Act.eval, Act.put]) HI2.out.map (.string sy) _ (by simp [Act.eval, Act.put]) (keyS hss) ?_; intro w3 hown3 hgrow3; have hEND := HXX.out w2 w3 HI2.out hown3 hgrow3; obtain ⟨z0, z1, z2⟩ := delT HT2.out HI2.out.map hgrow3; have z5 := (HI2.out.mapped hown3 hgrow3).1.blk.at_.2.2.2.2.2.1)
    | (go_at_call 37; refine (HMM.out _ (by first | exact bxB | exact bxB.drew) (by rfl)).mono ?_; rintro e w2 ⟨rfl, t0, t1, t2, d5, HT2, HI2, HF2⟩))
  all_goals go_wp2_with fail
  all_goals go_end0
  all_goals exact ⟨rfl, hEND.1, HF2.out.trans hEND.2⟩
end Go.Proofs.Yteohmemifogdlaa
