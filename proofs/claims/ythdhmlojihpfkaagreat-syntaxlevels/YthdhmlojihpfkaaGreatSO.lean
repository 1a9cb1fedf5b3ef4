/- Layer 4 of the program: items: one assign; an assign whose end lacks. -/
import Derived.Test.YthdhmlojihpfkaaGreatSN
namespace Go.Proofs.YthdhmlojihpfkaaGreat
open Go.RowKit Lg
set_option linter.unusedVariables false
set_option linter.unusedSimpArgs false

set_option maxRecDepth 100000 in
set_option maxHeartbeats 2000000 in
theorem pAssignN {b g cap R : Nat} {l : List Tok} {f k k' : Nat} {x : X} (h35 : fx l k ≠ [35]) (hn : nmB (tk l k) = true) (he : fx l (k + 1) = [61]) (hq : pQ l f (.ex 1) (k + 1 + 1) = some (x, k')) (hf : 1 + f ≤ 100000) (hs : fx l k' ≠ [59]) (w : World) (h : St b g cap l k w) :
    Calls Tryz.prog 102 #[.pointer (some ⟨b, 0, none⟩), .pointer (some ⟨R, 0, none⟩)] w fun e w' => e = .panicked (pnW (tk l k').p) ∧ Kp b w w' := by
  have HT := pTakesN h ⟨#[35]⟩ h35
  have HD := fun w' (hb : Below w.heap.size w w') => pDrivenN hn he hq hf hs w' (h.below hb)
  clear h35 hn he hq hf hs
  go_enter Tryz.func102, Tryz.ntmps102
  go_wp2_with (first
    | (go_at_call 67; refine HT.mono ?_; rintro e w1 ⟨rfl, hb1⟩)
    | (go_at_call 101; refine (HD _ hb1).mono ?_; rintro e w2 ⟨rfl, hk2⟩))
  exact ⟨rfl, rfl, (Kp.of hb1).trans hk2⟩
set_option maxRecDepth 100000 in
set_option maxHeartbeats 4000000 in
theorem pItemN {b g cap : Nat} {l : List Tok} {f k k' d : Nat} {x : X} (hd : d ≤ 32) (ha : fx l k = [97, 115, 115, 105, 103, 110]) (h35 : fx l (k + 1) ≠ [35]) (hn : nmB (tk l (k + 1)) = true) (he : fx l (k + 1 + 1) = [61]) (hq : pQ l f (.ex 1) (k + 1 + 1 + 1) = some (x, k')) (hf : 1 + f ≤ 100000) (hs : fx l k' ≠ [59]) (w : World) (h : St b g cap l k w) :
    Calls Tryz.prog 89 #[.pointer (some ⟨b, 0, none⟩), .int .i64 d] w fun e w' => e = .panicked (pnW (tk l k').p) ∧ Kp b w w' := by
  have HH := fun w' (hb : Below w.heap.size w w') => pHere (h.below hb)
  have HI := fun w' => itemKind_a (tk l k) w' ha
  have HO := fun w' (hb : Below w.heap.size w w') => pOpenY (h.below hb) d hd (h.nextX ha (by decide))
  have HA := fun {R} w' (hs1 : St b g cap l (k + 1) w') => pAssignN (R := R) h35 hn he hq hf hs w' hs1
  have HT : Hid _ := h
  obtain ⟨⟨kk, tx, p⟩, ht⟩ : ∃ t, t = tk l k := ⟨_, rfl⟩
  rw [← ht] at HH HI HO
  unfold tkV at HH HI HO
  simp only at HH HI HO
  obtain ⟨sx, hsx⟩ : ∃ sx, sx = S tx := ⟨_, rfl⟩
  rw [← hsx] at HH HI HO
  have hf1 := fld1
  have hf2 := fld2
  have hbl := HT.out.blt
  have hgl := HT.out.lt
  clear h hd ha h35 hn he hq hf hs ht hsx
  go_enter Tryz.func89, Tryz.ntmps89
  have hc0 := itC_0
  go_wp2_with (first
    | (go_at_call 53; refine (HH _ bxS).mono ?_; rintro e w1 ⟨rfl, hb1⟩))
  refine (HI _).mono ?_
  rintro e w2 ⟨rfl, hb2⟩
  rename_i hK0
  refine hK0 _ _ ?_
  refine wpl_build rfl 50 _ rfl #[(0, .int .i64 4)] (by kernel_rfl) _ (build_item _) ?_
  have z1 : w.heap.size + 1 ≤ w1.heap.size := by have := hb1.size; simpa using this
  have z2 := hb2.size
  have hst := fun w => store_item0 w (.string ⟨#[]⟩) (.int .i64 0) (.string ⟨#[]⟩) (.string ⟨#[]⟩) (.bool false) (.slice none 0 0) (.int .i64 0) (.int .i64 0) (itC_one _ _ _ _ _ _ _ _ _ _)
  go_wp2_with (first
    | (go_at_call 99; refine (HO _ (bel bxS (bel hb1 (bel hb2 bxS)))).mono ?_; rintro e w3 ⟨rfl, hs3, hk3⟩; have hI : IAt w3 w2.heap.size _ _ _ _ _ _ _ _ := ⟨(hk3.block w2.heap.size (by simp) (by omega)).trans (heap_alloc_last _ _)⟩; obtain ⟨q0, q47, qf, ql⟩ := hI.at2))
  refine (HA _ ((hs3.setR (by omega) (by omega)).below bxS)).mono ?_
  rintro e w6 ⟨rfl, hk6⟩
  exact ⟨rfl, rfl, ((((Kp.of (bel bxS (bel hb1 (bel hb2 bxS)))).trans hk3).setR (by omega)).trans (Kp.of bxS)).trans hk6⟩
theorem build_its (w : World) (nm a b c d e f p : Value) : (Instr.buildSlice 42 1 #[(0, .agg (itC nm a b c d e f p))]).run Tryz.prog w = .ok (.slice (some ⟨w.heap.size, 0, none⟩) 1 1) (w.alloc (.cells (itC nm a b c d e f p) 50)) := by kernel_rfl
theorem infoItem : ∃ i, Tryz.prog.info? 50 = some i ∧ i.zero = some (.agg #[.int .i64 0, .string .empty, .slice none 0 0, .bool false, .int .i64 0, .string .empty, .string .empty, .bool false, .slice none 0 0, .int .i64 0, .int .i64 0, .string .empty, .string .empty, .bool false, .slice none 0 0, .int .i64 0, .bool false, .int .i64 0, .string .empty, .string .empty, .bool false, .slice none 0 0, .int .i64 0, .int .i64 0, .string .empty, .string .empty, .bool false, .slice none 0 0, .int .i64 0, .int .i64 0, .string .empty, .string .empty, .bool false, .slice none 0 0, .int .i64 0, .int .i64 0, .string .empty, .string .empty, .bool false, .slice none 0 0, .int .i64 0, .string .empty, .string .empty, .slice none 0 0, .slice none 0 0, .slice none 0 0, .slice none 0 0, .int .i64 0]) ∧ i.size = 48 ∧ i.bytes = 680 := info_parts (by kernel_rfl)
theorem wpl_bslice {P : Program} {ops : Array Oper} {rest : List Oper} {o : Oper} {a : Act} {w : World} {Q : Exit → Act → World → Prop} (hgd : o.guard = none) (t : TypeId) (n : Nat) (ps : Array (Nat × Operand)) (ho : o.op = .buildSlice t n ps) (qs : Array (Nat × Value)) (hq : (ps.map fun (i, x) => (i, a.eval x)) = qs) (v : Value) (w' : World) (hv : (Instr.buildSlice t n qs).run P w = .ok v w')
    (h : wpList P ops Q rest (a.put o.dst v) w') : wpList P ops Q (o :: rest) a w :=
  wpList_plain hgd fun K hK => by
    unfold Oper.wp execOp
    simp only [ho, hq, Sem.run_bind, Sem.run_pure, Result.andThen, hv]
    exact hK _ _ h
theorem Kp.grown {b : Nat} {w w' : World} (h : w.grownBy w' none) : Kp b w w' := ⟨h.os, h.tape, h.output, h.size, fun k hk _ => h.block k hk (by simp)⟩
theorem St.keep {b g cap k : Nat} {l : List Tok} {w w' : World} (h : St b g cap l k w) (hk : w.grownBy w' none) : St b g cap l k w' :=
  ⟨(hk.block b h.blt (by simp)).trans h.blk, h.ne, Nat.lt_of_lt_of_le h.lt hk.size, h.cap, h.len, h.k, h.last, fun j u hu => by rw [World.cell?_of_block (w := w) (a := ⟨g, j, none⟩) (hk.block g h.lt (by simp))]; exact h.src j u hu⟩
/-- one item that is an assign, and where it lies -/
def ItsAt (w : World) (B : Nat) (v : Value) (nm : Value) (x : X) (p : Nat) : Prop := ∃ gi cp ao n c, v = .slice (some ⟨gi, 0, none⟩) 1 cp ∧ B ≤ gi ∧ gi < w.heap.size ∧ (∀ j u, (itC nm (.int .i64 x.op) (.string (S x.nm)) (.string (S x.vl)) (.bool x.pl) (.slice ao n c) (.int .i64 x.p) (.int .i64 p))[j]? = some u → w.cell? ⟨gi, j, none⟩ = some u) ∧ KAt w (Ge B) x.kids (.slice ao n c)
theorem ItsAt.keep {w w' : World} {B b : Nat} {v nm : Value} {x : X} {p : Nat} (h : ItsAt w B v nm x p) (hk : Kp b w w') (hb : b < B) : ItsAt w' B v nm x p := by
  obtain ⟨gi, cp, ao, n, c, h1, h2, h3, h4, h5⟩ := h
  exact ⟨gi, cp, ao, n, c, h1, h2, Nat.lt_of_lt_of_le h3 hk.size, fun j u hu => by rw [World.cell?_of_block (w := w) (a := ⟨gi, j, none⟩) (hk.block gi h3 (by omega))]; exact h4 j u hu, h5.keep (Up.of hk (by unfold Ge; omega))⟩
theorem new_row {w : World} {c : Array Value} {t : TypeId} (n : Nat) (hn : w.heap.size = n) (j : Nat) (u : Value) (h : c.toList[j]? = some u) : (w.alloc (.cells c t)).cell? ((⟨n, 0, none⟩ : Addr).add j) = some u := by
  subst hn
  rw [show (⟨w.heap.size, 0, none⟩ : Addr).add j = ⟨w.heap.size, j, none⟩ by unfold Addr.add; split <;> simp_all, World.cell?_alloc_at _ _ _ _ rfl]
  simpa using h
theorem all_of {c : Array Value} (h : c.all (·.oneCell') = true) : ∀ u ∈ c.toList, u.oneCell' = true := fun u hu => (Array.all_eq_true_iff_forall_mem.1 h) u (by simpa using hu)
theorem ItsAt.of {w : World} {B : Nat} {v nm : Value} {x : X} {p n c : Nat} {ao : Option Addr} (ho : w.ownsRow B 50 48 v (0 + 1) ([] ++ (itC nm (.int .i64 x.op) (.string (S x.nm)) (.string (S x.vl)) (.bool x.pl) (.slice ao n c) (.int .i64 x.p) (.int .i64 p)).toList)) (hk : KAt w (Ge B) x.kids (.slice ao n c)) : ItsAt w B v nm x p := by
  have hc := fun g hg => World.ownsRow.cells ho (g := g) hg
  rcases ho.2 with ⟨_, h⟩ | ⟨g, cp, cur, rfl, hB, hg, _⟩
  · omega
  · refine ⟨g, cp, ao, n, c, rfl, hB, heap_lt hg, fun j u hu => ?_, hk⟩
    have := hc g rfl j u (by simpa using hu)
    rwa [show (⟨g, 0, none⟩ : Addr).add j = ⟨g, j, none⟩ by unfold Addr.add; split <;> simp_all] at this
set_option maxRecDepth 100000 in
set_option maxHeartbeats 4000000 in
theorem pItemsA {b g cap : Nat} {l : List Tok} {f k k' : Nat} {x : X} (ha : fx l k = [97, 115, 115, 105, 103, 110]) (h35 : fx l (k + 1) ≠ [35]) (hn : nmB (tk l (k + 1)) = true) (he : fx l (k + 1 + 1) = [61]) (hq : pQ l f (.ex 1) (k + 1 + 1 + 1) = some (x, k')) (hf : 1 + f ≤ 100000) (hs : fx l k' = [59]) (hz : fx l (k' + 1) = [101, 110, 100, 109, 111, 100, 117, 108, 101]) (w : World) (h : St b g cap l k w) :
    Calls Tryz.prog 73 #[.pointer (some ⟨b, 0, none⟩), .string ⟨#[101, 110, 100, 109, 111, 100, 117, 108, 101]⟩, .int .i64 1] w fun e w' => (∃ ao n cp, e = .returned (.slice ao n cp) ∧ ItsAt w' w.heap.size (.slice ao n cp) (.string (S (tk l (k + 1)).x)) x (tk l k).p) ∧ St b g cap l (k' + 1 + 1) w' ∧ Kp b w w' := by
  have HT1 := pTakesN h ⟨#[101, 110, 100, 109, 111, 100, 117, 108, 101]⟩ (by rw [ha]; decide)
  have HT2 := fun w' (h : St b g cap l (k' + 1) w') => pTakesY h ⟨#[101, 110, 100, 109, 111, 100, 117, 108, 101]⟩ hz (by decide)
  have HI := fun w' (hb : Below w.heap.size w w') => pItemA (d := 1) (by decide) ha h35 hn he hq hf hs w' (h.below hb)
  obtain ⟨i0, hi, hz0, hz1, hz2⟩ := infoItem
  have HLE : Hid _ := pQ_le _ _ _ _ _ hq
  have HT : Hid _ := h
  obtain ⟨yo, yn, yv, yp, yk, yp2⟩ := x
  simp only at HI ⊢
  obtain ⟨sn, hsn⟩ : ∃ sn, sn = S yn := ⟨_, rfl⟩
  obtain ⟨sv, hsv⟩ : ∃ sv, sv = S yv := ⟨_, rfl⟩
  obtain ⟨nm, hnm⟩ : ∃ nm, nm = S (tk l (k + 1)).x := ⟨_, rfl⟩
  obtain ⟨p, hp⟩ : ∃ p, p = (tk l k).p := ⟨_, rfl⟩
  rw [← hnm, ← hsn, ← hsv, ← hp] at HI
  rw [← hnm, ← hp]
  have HN : Hid _ := hsn
  have HV : Hid _ := hsv
  clear ha h35 hn he hq hf hs hz hsn hsv hnm hp h
  have hbl := HT.out.blt
  go_enter Tryz.func73, Tryz.ntmps73
  go_wp2_with fail
  go_loopw [7] (fun iv wr => (iv = .slice none 0 0 ∧ wr = w) ∨ (∃ ao cp, iv = .slice ao 1 cp ∧ Hid (ItsAt wr w.heap.size (.slice ao 1 cp) (.string nm) ⟨yo, yn, yv, yp, yk, yp2⟩ p) ∧ Hid (St b g cap l (k' + 1) wr) ∧ Hid (Kp b w wr))) (fun _ wr => l.length - atP b wr)
  case atStart => exact Or.inl ⟨rfl, rfl⟩
  case round =>
    rcases hrel with ⟨rfl, rfl⟩ | ⟨ao, cp, rfl, HIT, HST, HKP⟩
    · go_wp2_with (first
        | (go_at_call 67; refine HT1.mono ?_; rintro e w1 ⟨rfl, hb1⟩)
        | (go_at_call 89; refine (HI _ hb1).mono ?_; rintro e w2 ⟨⟨ao, vn, cp, rfl, hv⟩, hs2, hk2⟩)
        | (refine wpl_bslice rfl 42 1 _ rfl #[(0, .agg (itC (.string nm) (.int .i64 yo) (.string sn) (.string sv) (.bool yp) (.slice ao vn cp) (.int .i64 yp2) (.int .i64 p)))] (by kernel_rfl) _ _ (build_its _ _ _ _ _ _ _ _ _) ?_)
        | (refine wpList_append_own _ rfl _ _ 42 rfl wr.heap.size 50 i0 _ 48 680 Tryz.underlying42 hi hz0 hz1 hz2 rfl (by decide) _ 0 [] rfl (World.ownsRow_nil _ _ _ _) ⟨w2.heap.size, 0, none⟩ 1 1 (itC (.string nm) (.int .i64 yo) (.string sn) (.string sv) (.bool yp) (.slice ao vn cp) (.int .i64 yp2) (.int .i64 p)).toList rfl rfl (new_row _ rfl) (all_of (itC_one _ _ _ _ _ _ _ _ _ _)) (by simp [maxLen]) (by decide) (by have := hb1.size; have := hk2.size; simp; omega) ?_; intro v' w3 hown hgrow hnil; obtain ⟨ao3, cp3, rfl⟩ := slice_of hown))
      go_roundw
      case rel =>
        have e1 := HN.out
        have e2 := HV.out
        subst e1 e2
        have z1 := hb1.size
        have z2 := hk2.size
        have hU : Up (Ge w1.heap.size) w2 w3 := Up.of (b := b) ((Kp.of bxS).trans (Kp.grown hgrow)) (by unfold Ge; omega)
        exact Or.inr ⟨_, _, rfl, ItsAt.of (x := ⟨yo, yn, yv, yp, yk, yp2⟩) hown ((hv.keep hU).monoG z1), (hs2.below bxS).keep hgrow, (((Kp.of hb1).trans hk2).trans (Kp.of bxS)).trans (Kp.grown hgrow)⟩
      case measure =>
        have a1 := atP_eq ((hs2.below bxS).keep hgrow)
        have a2 := atP_eq HT.out
        have a3 := HLE.out
        have a4 := hs2.k
        rw [a1, a2]
        omega
    · go_wp2_with (first
        | (go_at_call 67; refine (HT2 _ HST.out).mono ?_; rintro e w1 ⟨rfl, hs1, hk1⟩))
      go_ret
      exact ⟨⟨_, _, _, rfl, HIT.out.keep hk1 hbl⟩, hs1, HKP.out.trans hk1⟩
set_option maxRecDepth 100000 in
set_option maxHeartbeats 4000000 in
theorem pItemsN {b g cap : Nat} {l : List Tok} {f k k' : Nat} {x : X} (ha : fx l k = [97, 115, 115, 105, 103, 110]) (h35 : fx l (k + 1) ≠ [35]) (hn : nmB (tk l (k + 1)) = true) (he : fx l (k + 1 + 1) = [61]) (hq : pQ l f (.ex 1) (k + 1 + 1 + 1) = some (x, k')) (hf : 1 + f ≤ 100000) (hs : fx l k' ≠ [59]) (w : World) (h : St b g cap l k w) :
    Calls Tryz.prog 73 #[.pointer (some ⟨b, 0, none⟩), .string ⟨#[101, 110, 100, 109, 111, 100, 117, 108, 101]⟩, .int .i64 1] w fun e w' => e = .panicked (pnW (tk l k').p) ∧ Kp b w w' := by
  have HT1 := pTakesN h ⟨#[101, 110, 100, 109, 111, 100, 117, 108, 101]⟩ (by rw [ha]; decide)
  have HI := fun w' (hb : Below w.heap.size w w') => pItemN (d := 1) (by decide) ha h35 hn he hq hf hs w' (h.below hb)
  clear ha h35 hn he hq hf hs h
  go_enter Tryz.func73, Tryz.ntmps73
  go_wp2_with fail
  go_loopw [7] (fun iv wr => iv = .slice none 0 0 ∧ wr = w) (fun _ wr => 0)
  case atStart => exact ⟨rfl, rfl⟩
  case round =>
    obtain ⟨rfl, rfl⟩ := hrel
    go_wp2_with (first
      | (go_at_call 67; refine HT1.mono ?_; rintro e w1 ⟨rfl, hb1⟩)
      | (go_at_call 89; refine (HI _ hb1).mono ?_; rintro e w2 ⟨rfl, hk2⟩))
    exact ⟨rfl, rfl, (Kp.of hb1).trans hk2⟩
end Go.Proofs.YthdhmlojihpfkaaGreat
