/- Layer 4: tokens, awake, levels, joined: what each part says stands ahead of it. -/
import Derived.Test.YthdhmlojihpfkaaGreatSY
import Derived.Test.YthdhmlojihpfkaaGreatNaA
import Derived.Test.YthdhmlojihpfkaaGreatNaB
/- Layer 4: a source's tokens; the parser is awake. -/
namespace Go.Proofs.YthdhmlojihpfkaaGreat
open Go.RowKit Lg
set_option linter.unusedVariables false
set_option linter.unusedSimpArgs false

theorem tks_of {w : World} {B g cap n pe : Nat} {l body : List Tok} (h : Lie w B g cap l) (hln : l = body ++ [⟨6, [], pe⟩]) (hbn : body.length = n) (hn : n ≤ 16384) : Tks g cap l w := by
  have hll : l.length = n + 1 := by rw [hln]; simp [hbn]
  refine ⟨h.lt, h.cap.1, by omega, by omega, ?_, h.at_⟩
  rw [hll, show n + 1 - 1 = body.length by omega, hln]; unfold tk; simp
set_option maxRecDepth 100000 in
set_option maxHeartbeats 1000000 in
theorem tokens_c (s : ByteArray) (w : World) (hs : s.size ≤ maxLen) {n pe : Nat} {l body : List Tok} (hl : lexL (L s) = .toks l) (hln : l = body ++ [⟨6, [], pe⟩]) (hbn : body.length = n) (hb : ∀ (i : Nat) (t : Tok), body[i]? = some t → t.k ≠ 4 ∧ t.k ≠ 5 ∧ t.k ≠ 6) (hn : n ≤ 16384) :
    Calls Tryz.prog 7 #[.string s] w fun e w' => ∃ g cap, e = .returned (.slice (some ⟨g, 0, none⟩) l.length cap) ∧ Tks g cap l w' ∧ Below w.heap.size w w' := by
  have HL := rLex_t s w hs l hl
  have HR := fun g cap w' (h : Tks g cap l w') => rRun h hln hbn hb hn
  have HT := fun g cap B w' (h : Lie w' B g cap l) => tks_of h hln hbn hn
  obtain ⟨m, hm⟩ : ∃ m, m = l.length := ⟨_, rfl⟩
  rw [← hm] at HL ⊢
  simp only [← hm] at HR
  clear hs hl hln hbn hb hn hm
  go_enter Tryz.func7, Tryz.ntmps7
  go_wp2_with (first
    | (go_at_call 14; refine HL.mono ?_; rintro e w1 ⟨g1, cap1, rfl, hlie, hb1⟩)
    | (go_at_call 15; refine (HR g1 cap1 _ (HT _ _ _ _ hlie)).mono ?_; rintro e w2 ⟨g2, cap2, rfl, ht2, hb2⟩))
  go_ret
  exact ⟨_, _, rfl, ht2, bel hb1 hb2⟩
end Go.Proofs.YthdhmlojihpfkaaGreat

/- Layer 4: the parser is awake. -/
namespace Go.Proofs.YthdhmlojihpfkaaGreat
open Go.RowKit Lg
set_option linter.unusedVariables false
set_option linter.unusedSimpArgs false

def awB1 : List Tok := [⟨1, [109, 111, 100, 117, 108, 101], 0⟩, ⟨1, [109], 7⟩, ⟨3, [40], 8⟩, ⟨1, [105, 110, 112, 117, 116], 9⟩, ⟨1, [97], 15⟩, ⟨3, [44], 16⟩, ⟨1, [111, 117, 116, 112, 117, 116], 18⟩, ⟨1, [121], 25⟩, ⟨3, [41], 26⟩, ⟨3, [59], 27⟩, ⟨1, [97, 115, 115, 105, 103, 110], 29⟩, ⟨1, [121], 36⟩, ⟨3, [61], 38⟩, ⟨3, [126], 40⟩, ⟨1, [97], 41⟩, ⟨3, [59], 42⟩, ⟨1, [101, 110, 100, 109, 111, 100, 117, 108, 101], 44⟩]
def awL1 : List Tok := awB1 ++ [⟨6, [], 53⟩]
def awB2 : List Tok := [⟨1, [109, 111, 100, 117, 108, 101], 0⟩, ⟨1, [109], 7⟩, ⟨3, [40], 8⟩, ⟨3, [41], 9⟩, ⟨3, [59], 10⟩, ⟨1, [97, 115, 115, 105, 103, 110], 12⟩, ⟨1, [121], 19⟩, ⟨3, [61], 21⟩, ⟨1, [97], 23⟩, ⟨1, [101, 110, 100, 109, 111, 100, 117, 108, 101], 25⟩]
def awL2 : List Tok := awB2 ++ [⟨6, [], 34⟩]
theorem awl1 : lexL awS1 = .toks awL1 := lexL_of (lexF_ok 60 _ _ _ _ _ (by decide +kernel)) (by decide)
theorem awl2 : lexL awS2 = .toks awL2 := lexL_of (lexF_ok 60 _ _ _ _ _ (by decide +kernel)) (by decide)
def awX1 : X := ⟨7, [], [], false, X.f ⟨2, [97], [], false, .nil, 41⟩ .nil, 40⟩
theorem awq1 : pQ awL1 20 (.ex 1) 13 = some (awX1, 15) := by decide +kernel
theorem awq2 : pQ awL2 20 (.ex 1) 8 = some (⟨2, [97], [], false, .nil, 23⟩, 9) := by decide +kernel
theorem kinds_of {l : List Tok} (h : l.all (fun t => t.k != 4 && t.k != 5 && t.k != 6) = true) : ∀ (i : Nat) (t : Tok), l[i]? = some t → t.k ≠ 4 ∧ t.k ≠ 5 ∧ t.k ≠ 6 := by
  intro i t ht
  have := List.all_eq_true.1 h t (List.mem_of_getElem? ht)
  simp at this
  exact ⟨this.1.1, this.1.2, this.2⟩
theorem awT1 (w : World) : Calls Tryz.prog 7 #[.string (S awS1)] w fun e w' => ∃ g cap, e = .returned (.slice (some ⟨g, 0, none⟩) 18 cap) ∧ Tks g cap awL1 w' ∧ Below w.heap.size w w' :=
  tokens_c (S awS1) w (by decide) (n := 17) (l := awL1) (body := awB1) (pe := 53) (by rw [L_S]; exact awl1) rfl rfl (kinds_of (by decide)) (by decide)
theorem awT2 (w : World) : Calls Tryz.prog 7 #[.string (S awS2)] w fun e w' => ∃ g cap, e = .returned (.slice (some ⟨g, 0, none⟩) 11 cap) ∧ Tks g cap awL2 w' ∧ Below w.heap.size w w' :=
  tokens_c (S awS2) w (by decide) (n := 10) (l := awL2) (body := awB2) (pe := 34) (by rw [L_S]; exact awl2) rfl rfl (kinds_of (by decide)) (by decide)
theorem a10 : (tk awL1 17).k = 6 := by decide +kernel
theorem a11 : fx awL1 0 = [109, 111, 100, 117, 108, 101] := by decide +kernel
theorem a12 : nmB (tk awL1 (0 + 1)) = true := by decide +kernel
theorem a13 : fx awL1 (0 + 1 + 1) = [40] := by decide +kernel
theorem a1q0 : fx awL1 (0 + 1 + 1 + 1) = [105, 110, 112, 117, 116] := by decide +kernel
theorem a1q1 : fx awL1 (0 + 1 + 1 + 1 + 1) ≠ [91] := by decide +kernel
theorem a1q2 : nmB (tk awL1 (0 + 1 + 1 + 1 + 1)) = true := by decide +kernel
theorem a1q3 : fx awL1 (0 + 1 + 1 + 1 + 1 + 1) = [44] := by decide +kernel
theorem a1q4 : fx awL1 (0 + 1 + 1 + 1 + 1 + 1 + 1) = [111, 117, 116, 112, 117, 116] := by decide +kernel
theorem a1q5 : fx awL1 (0 + 1 + 1 + 1 + 1 + 1 + 1 + 1) ≠ [114, 101, 103] := by decide +kernel
theorem a1q6 : fx awL1 (0 + 1 + 1 + 1 + 1 + 1 + 1 + 1) ≠ [91] := by decide +kernel
theorem a1q7 : nmB (tk awL1 (0 + 1 + 1 + 1 + 1 + 1 + 1 + 1)) = true := by decide +kernel
theorem a1h3 : fx awL1 (0 + 1 + 1 + 1 + 1 + 1 + 1 + 1 + 1) = [41] := by decide +kernel
theorem a1h4 : fx awL1 (0 + 1 + 1 + 1 + 1 + 1 + 1 + 1 + 1 + 1) = [59] := by decide +kernel
theorem a1i0 : fx awL1 (0 + 1 + 1 + 1 + 1 + 1 + 1 + 1 + 1 + 1 + 1) = [97, 115, 115, 105, 103, 110] := by decide +kernel
theorem a1i1 : fx awL1 (0 + 1 + 1 + 1 + 1 + 1 + 1 + 1 + 1 + 1 + 1 + 1) ≠ [35] := by decide +kernel
theorem a1i2 : nmB (tk awL1 (0 + 1 + 1 + 1 + 1 + 1 + 1 + 1 + 1 + 1 + 1 + 1)) = true := by decide +kernel
theorem a1i3 : fx awL1 (0 + 1 + 1 + 1 + 1 + 1 + 1 + 1 + 1 + 1 + 1 + 1 + 1) = [61] := by decide +kernel
theorem a1i4 : fx awL1 15 = [59] := by decide +kernel
theorem a1i5 : fx awL1 (15 + 1) = [101, 110, 100, 109, 111, 100, 117, 108, 101] := by decide +kernel
theorem a21 : fx awL2 0 = [109, 111, 100, 117, 108, 101] := by decide +kernel
theorem a22 : nmB (tk awL2 (0 + 1)) = true := by decide +kernel
theorem a23 : fx awL2 (0 + 1 + 1) = [40] := by decide +kernel
theorem a2h3 : fx awL2 (0 + 1 + 1 + 1) = [41] := by decide +kernel
theorem a2h4 : fx awL2 (0 + 1 + 1 + 1 + 1) = [59] := by decide +kernel
theorem a2i0 : fx awL2 (0 + 1 + 1 + 1 + 1 + 1) = [97, 115, 115, 105, 103, 110] := by decide +kernel
theorem a2i1 : fx awL2 (0 + 1 + 1 + 1 + 1 + 1 + 1) ≠ [35] := by decide +kernel
theorem a2i2 : nmB (tk awL2 (0 + 1 + 1 + 1 + 1 + 1 + 1)) = true := by decide +kernel
theorem a2i3 : fx awL2 (0 + 1 + 1 + 1 + 1 + 1 + 1 + 1) = [61] := by decide +kernel
theorem a2i4 : fx awL2 9 ≠ [59] := by decide +kernel
theorem a1q : pQ awL1 20 (.ex 1) (0 + 1 + 1 + 1 + 1 + 1 + 1 + 1 + 1 + 1 + 1 + 1 + 1 + 1) = some (awX1, 15) := awq1
theorem a2q : pQ awL2 20 (.ex 1) (0 + 1 + 1 + 1 + 1 + 1 + 1 + 1 + 1) = some (⟨2, [97], [], false, .nil, 23⟩, 9) := awq2
theorem a1p : (tk awL1 (0 + 1 + 1 + 1 + 1 + 1 + 1 + 1 + 1 + 1 + 1)).p = 29 ∧ (tk awL1 (0 + 1 + 1 + 1 + 1 + 1 + 1 + 1 + 1 + 1 + 1 + 1)).x = [121] := by decide +kernel
theorem a2p : (tk awL2 9).p = 25 := by decide +kernel
theorem a1n : awL1.length = 18 := by decide +kernel
theorem a2n : awL2.length = 11 := by decide +kernel
theorem awM1 {b g cap : Nat} {w' : World} (hs : St b g cap awL1 0 w') : Calls Tryz.prog 52 #[.pointer (some ⟨b, 0, none⟩)] w' fun e w'' => MoO w'' w'.heap.size e 2 (.string (S [121])) awX1 29 ∧ St b g cap awL1 (15 + 1 + 1) w'' ∧ Kp b w' w'' := by
  refine pMod2 hs a11 a12 a13 a1q0 a1q1 a1q2 a1q3 a1q4 a1q5 a1q6 a1q7 a1h3 a1h4 fun w'' hs2 => ?_
  have := pItemsA a1i0 a1i1 a1i2 a1i3 a1q (by decide) a1i4 a1i5 w'' hs2
  rw [a1p.1, a1p.2] at this
  exact this
theorem awP1 {g cap : Nat} {w : World} (h : Tks g cap awL1 w) : Calls Tryz.prog 9 #[.slice (some ⟨g, 0, none⟩) 18 cap] w fun e w' => (∃ gm, e = .returned (.tuple #[.slice (some ⟨gm, 0, none⟩) 1 1, .slice none 0 0]) ∧ ModsAt w' w.heap.size gm 2 (.string (S [121])) awX1 29) ∧ Below w.heap.size w w' := by
  have := pParseY (ke := 15 + 1 + 1) h a10 fun b w' hs => awM1 hs
  rw [a1n] at this
  exact this
theorem awM2 {b g cap : Nat} {w' : World} (hs : St b g cap awL2 0 w') : Calls Tryz.prog 52 #[.pointer (some ⟨b, 0, none⟩)] w' fun e w'' => e = .panicked (pnW (25 : Nat)) ∧ Kp b w' w'' := by
  refine pModN hs a21 a22 a23 a2h3 a2h4 fun w'' hs2 => ?_
  have := pItemsN a2i0 a2i1 a2i2 a2i3 a2q (by decide) a2i4 w'' hs2
  rw [a2p] at this
  exact this
theorem awP2 {g cap : Nat} {w : World} (h : Tks g cap awL2 w) : Calls Tryz.prog 9 #[.slice (some ⟨g, 0, none⟩) 11 cap] w fun e w' => (∃ gd, e = .returned (.tuple #[.slice none 0 0, .slice (some ⟨gd, 0, none⟩) 1 1]) ∧ w.heap.size ≤ gd ∧ w'.heap[gd]? = some (.cells #[.int .i64 (25 : Nat), .int .i64 40] 36 (0, 0))) ∧ Below w.heap.size w w' := by
  have := pParseN (p := 25) h fun b w' hs => awM2 hs
  rw [a2n] at this
  exact this
theorem ItsAt.below {w w' : World} {B : Nat} {v nm : Value} {x : X} {p : Nat} (h : ItsAt w B v nm x p) (hk : Below w.heap.size w w') : ItsAt w' B v nm x p := by
  obtain ⟨gi, cp, ao, n, c, h1, h2, h3, h4, h5⟩ := h
  exact ⟨gi, cp, ao, n, c, h1, h2, Nat.lt_of_lt_of_le h3 hk.size, fun j u hu => by rw [hk.cell (p := ⟨gi, j, none⟩) h3]; exact h4 j u hu, h5.keep ⟨hk.size, fun k h _ => hk.block k h⟩⟩
theorem ModsAt.below {w w' : World} {B gm np : Nat} {nm : Value} {x : X} {p : Nat} (h : ModsAt w B gm np nm x p) (hk : Below w.heap.size w w') : ModsAt w' B gm np nm x p := by
  obtain ⟨sn, pa, pc, ao, n, cp, pt, h1, h2, h3⟩ := h
  exact ⟨sn, pa, pc, ao, n, cp, pt, h1, (hk.block gm (heap_lt h2)).trans h2, h3.below hk⟩
theorem ModsAt.at_ {w : World} {B gm np : Nat} {nm : Value} {x : X} {p : Nat} (h : ModsAt w B gm np nm x p) : ∃ pa pc gi cp ao n c, w.cell? ⟨gm, 2, none⟩ = some (.slice pa np pc) ∧ w.cell? ⟨gm, 3, none⟩ = some (.slice (some ⟨gi, 0, none⟩) 1 cp) ∧ gm < w.heap.size ∧ gi < w.heap.size ∧
    w.cell? ⟨gi, 23, none⟩ = some (.int .i64 x.op) ∧ w.cell? ⟨gi, 24, none⟩ = some (.string (S x.nm)) ∧ w.cell? ⟨gi, 25, none⟩ = some (.string (S x.vl)) ∧ w.cell? ⟨gi, 26, none⟩ = some (.bool x.pl) ∧ w.cell? ⟨gi, 27, none⟩ = some (.slice ao n c) ∧ w.cell? ⟨gi, 28, none⟩ = some (.int .i64 x.p) ∧ KAt w (Ge B) x.kids (.slice ao n c) := by
  obtain ⟨sn, pa, pc, ao', n', cp', pt, h1, h2, gi, cp, ao, n, c, e, h4, h5, h6, h7⟩ := h
  injection e with e1 e2 e3
  subst e1 e2 e3
  exact ⟨pa, pc, gi, _, ao, n, c, by rw [Lib.cell_of_heap h2]; rfl, by rw [Lib.cell_of_heap h2]; rfl, heap_lt h2, h5, h6 23 _ rfl, h6 24 _ rfl, h6 25 _ rfl, h6 26 _ rfl, h6 27 _ rfl, h6 28 _ rfl, h7⟩
set_option maxRecDepth 100000 in
set_option maxHeartbeats 4000000 in
theorem awake4 (w : World) : Calls Tryz.prog 8 #[] w fun e w' => e = .returned (.bool true) ∧ Below w.heap.size w w' := by
  have HT1 : ∀ w : World, Calls Tryz.prog 7 #[.string ⟨#[109, 111, 100, 117, 108, 101, 32, 109, 40, 105, 110, 112, 117, 116, 32, 97, 44, 32, 111, 117, 116, 112, 117, 116, 32, 121, 41, 59, 32, 97, 115, 115, 105, 103, 110, 32, 121, 32, 61, 32, 126, 97, 59, 32, 101, 110, 100, 109, 111, 100, 117, 108, 101]⟩] w fun e w' => ∃ g cap, e = .returned (.slice (some ⟨g, 0, none⟩) 18 cap) ∧ Tks g cap awL1 w' ∧ Below w.heap.size w w' := fun w => awT1 w
  have HT2 : ∀ w : World, Calls Tryz.prog 7 #[.string ⟨#[109, 111, 100, 117, 108, 101, 32, 109, 40, 41, 59, 32, 97, 115, 115, 105, 103, 110, 32, 121, 32, 61, 32, 97, 32, 101, 110, 100, 109, 111, 100, 117, 108, 101]⟩] w fun e w' => ∃ g cap, e = .returned (.slice (some ⟨g, 0, none⟩) 11 cap) ∧ Tks g cap awL2 w' ∧ Below w.heap.size w w' := fun w => awT2 w
  go_enter Tryz.func8, Tryz.ntmps8
  go_wp2_with (first
    | (go_at_call 7; have hx := hm2; refine (HT2 _).mono ?_; rintro e w3 ⟨g3, cap3, rfl, ht3, hb3⟩)
    | (go_at_call 7; refine (HT1 _).mono ?_; rintro e w1 ⟨g1, cap1, rfl, ht1, hb1⟩)
    | (go_at_call 9; have hx := ht3; refine (awP2 ht3).mono ?_; rintro e w4 ⟨⟨gd, rfl, hd1, hd2⟩, hb4⟩; obtain ⟨pa, pc, gi, cp, ao, n, c, q2, q3, ql, rl, r0, r1, r2, r3, r4, r5, rk⟩ := (hm2.below (bel hb3 hb4)).at_; have d0 : w4.cell? ⟨gd, 0, none⟩ = some (.int .i64 25) := by { rw [Lib.cell_of_heap hd2]; rfl }; have d1 : w4.cell? ⟨gd, 1, none⟩ = some (.int .i64 40) := by { rw [Lib.cell_of_heap hd2]; rfl }; have dl := heap_lt hd2; replace r0 : w4.cell? ⟨gi, 23, none⟩ = some (.int .i64 7) := r0; clear rk hd2 hd1 r1 r2 r3 r4 r5)
    | (go_at_call 9; refine (awP1 ht1).mono ?_; rintro e w2 ⟨⟨gm, rfl, hm2⟩, hb2⟩))
  go_ret
  exact ⟨rfl, bel (bel hb1 hb2) (bel hb3 hb4)⟩
end Go.Proofs.YthdhmlojihpfkaaGreat

/- Layer 4: what binds more tightly is read first. -/
namespace Go.Proofs.YthdhmlojihpfkaaGreat
open Go.RowKit Lg
set_option linter.unusedVariables false
set_option linter.unusedSimpArgs false

theorem mask16 (n : Int) : bits .and .i64 n 65535 = n % 65536 := by
  have hpos : 0 < 2 ^ 16 := by decide
  have h1 : (BitVec.ofInt 64 (65535 : Int)).toNat = 65535 := by decide
  have key : (BitVec.ofInt 64 n &&& BitVec.ofInt 64 (65535 : Int)).toNat = (n % ((2 ^ 64 : Nat) : Int)).toNat % 2 ^ 16 := by
    rw [BitVec.toNat_and, BitVec.toNat_ofInt, h1, show (65535 : Nat) = 2 ^ 16 - 1 by decide, Nat.and_two_pow_sub_one_eq_mod]
  show IntKind.i64.wrap ((BitVec.ofInt 64 n &&& BitVec.ofInt 64 (65535 : Int)).toNat : Nat) = n % 65536
  rw [key, IntKind.wrap_i64]
  have h2 : ((n % ((2 ^ 64 : Nat) : Int)).toNat % 2 ^ 16 : Nat) = n % 65536 := by
    rw [Int.natCast_emod, Int.toNat_of_nonneg (Int.emod_nonneg _ (by decide)), Int.emod_emod_of_dvd]
    · rfl
    · exact Int.natCast_dvd_natCast.2 (Nat.pow_dvd_pow 2 (by omega))
  rw [h2]; omega
/-- two parts, and where they lie -/
theorem KAt.two_ {w : World} {N : Nat → Prop} {x y : X} {ao : Option Addr} {n c : Nat} (h : KAt w N (x.f (y.f .nil)) (.slice ao n c)) : ∃ g vx vy, ao = some ⟨g, 0, none⟩ ∧ n = 2 ∧ g < w.heap.size ∧ (∀ j u, (xC x vx ++ xC y vy)[j]? = some u → w.cell? ⟨g, j, none⟩ = some u) ∧ KAt w N x.kids vx ∧ KAt w N y.kids vy ∧ 2 ≤ c := by
  obtain ⟨cks, ⟨vx, cr, ckx, rfl, ⟨vy, cr2, cky, rfl, rfl, hy1, hy2⟩, hx1, hx2⟩, hs⟩ := h
  rcases hs with ⟨h1, _⟩ | ⟨g, cap, he, _, hl, hc, hcs⟩
  · exact absurd h1 (by intro e; cases e)
  · injection he with e1 e2 e3
    subst e1 e2 e3
    exact ⟨g, vx, vy, rfl, rfl, hl, hcs, ⟨ckx, hx1, hx2⟩, ⟨cky, hy1, hy2⟩, hc⟩
theorem KAt.slice_ {w : World} {N : Nat → Prop} {ks : F} {v : Value} (h : KAt w N ks v) : ∃ ao n c, v = .slice ao n c := by
  obtain ⟨cks, _, hs⟩ := h
  rcases hs with ⟨_, rfl⟩ | ⟨g, cap, rfl, _⟩
  · exact ⟨_, _, _, rfl⟩
  · exact ⟨_, _, _, rfl⟩
def lvL (p q : Nat) : List Tok := lvK p q ++ [⟨6, [], (lvT p q).length⟩]
theorem lvLn (p q : Nat) : (lvL p q).length = 16 := rfl
theorem lvF : ∀ p, p < 15 → ∀ q, q < 15 → fx (lvL p q) 13 = [59] ∧ fx (lvL p q) (13 + 1) = [101, 110, 100, 109, 111, 100, 117, 108, 101] := by decide +kernel
theorem lvKd : ∀ p, p < 15 → ∀ q, q < 15 → (lvK p q).all (fun t => t.k != 4 && t.k != 5 && t.k != 6) = true := by decide +kernel
theorem lvTl : ∀ p, p < 15 → ∀ q, q < 15 → (lvT p q).length ≤ 60 := by decide +kernel
theorem lvM {p q : Nat} (hp : p < 15) (hq : q < 15) {b g cap : Nat} {w' : World} (hs : St b g cap (lvL p q) 0 w') : Calls Tryz.prog 52 #[.pointer (some ⟨b, 0, none⟩)] w' fun e w'' => MoO w'' w'.heap.size e 0 (.string (S [121])) (lvX p q) 12 ∧ St b g cap (lvL p q) (13 + 1 + 1) w'' ∧ Kp b w' w'' := by
  have h0 : fx (lvL p q) 0 = [109, 111, 100, 117, 108, 101] := by rfl
  have h35 : fx (lvL p q) (0 + 1 + 1 + 1 + 1 + 1 + 1) ≠ [35] := by rw [show fx (lvL p q) (0 + 1 + 1 + 1 + 1 + 1 + 1) = [] from rfl]; decide
  refine pMod0 hs h0 rfl rfl rfl rfl fun w'' hs2 => ?_
  exact pItemsA (k := 0 + 1 + 1 + 1 + 1 + 1) (f := 20) rfl h35 rfl rfl (lv_qF p hp q hq) (by decide) (lvF p hp q hq).1 (lvF p hp q hq).2 w'' hs2
theorem lvP {p q : Nat} (hp : p < 15) (hq : q < 15) {g cap : Nat} {w : World} (h : Tks g cap (lvL p q) w) : Calls Tryz.prog 9 #[.slice (some ⟨g, 0, none⟩) 16 cap] w fun e w' => (∃ gm, e = .returned (.tuple #[.slice (some ⟨gm, 0, none⟩) 1 1, .slice none 0 0]) ∧ ModsAt w' w.heap.size gm 0 (.string (S [121])) (lvX p q) 12) ∧ Below w.heap.size w w' := by
  have := pParseY (ke := 13 + 1 + 1) h rfl fun b w' hs => lvM hp hq hs
  rw [lvLn] at this
  exact this
set_option maxRecDepth 100000 in
theorem lvTo {p q : Nat} (hp : p < 15) (hq : q < 15) (w : World) : Calls Tryz.prog 7 #[.string (S (lvT p q))] w fun e w' => ∃ g cap, e = .returned (.slice (some ⟨g, 0, none⟩) 16 cap) ∧ Tks g cap (lvL p q) w' ∧ Below w.heap.size w w' :=
  tokens_c (S (lvT p q)) w (by have := lvTl p hp q hq; rw [← len_L, L_S]; unfold maxLen; omega) (n := 15) (l := lvL p q) (body := lvK p q) (pe := (lvT p q).length) (by rw [L_S]; exact lv_lex p q hp hq) rfl rfl (kinds_of (lvKd p hp q hq)) (by decide)
end Go.Proofs.YthdhmlojihpfkaaGreat

/- Layer 4: what binds more tightly is read first: the law. -/
namespace Go.Proofs.YthdhmlojihpfkaaGreat
open Go.RowKit Lg
set_option linter.unusedVariables false
set_option linter.unusedSimpArgs false

theorem sg_at {w : World} {R : Nat} (h : w.heap[R]? = some (.cells #[.string ⟨#[124, 124]⟩, .string ⟨#[38, 38]⟩, .string ⟨#[124]⟩, .string ⟨#[94]⟩, .string ⟨#[38]⟩, .string ⟨#[61, 61]⟩, .string ⟨#[33, 61]⟩, .string ⟨#[60]⟩, .string ⟨#[60, 61]⟩, .string ⟨#[62]⟩, .string ⟨#[62, 61]⟩, .string ⟨#[60, 60]⟩, .string ⟨#[62, 62]⟩, .string ⟨#[43]⟩, .string ⟨#[45]⟩] 9 (0, 0))) {p : Nat} (hp : p < 15) : w.cell? ⟨R, p, none⟩ = some (.string (S (sg p))) := by
  rw [Lib.cell_of_heap h]
  match p, hp with
  | 0, _ => rfl
  | 1, _ => rfl
  | 2, _ => rfl
  | 3, _ => rfl
  | 4, _ => rfl
  | 5, _ => rfl
  | 6, _ => rfl
  | 7, _ => rfl
  | 8, _ => rfl
  | 9, _ => rfl
  | 10, _ => rfl
  | 11, _ => rfl
  | 12, _ => rfl
  | 13, _ => rfl
  | 14, _ => rfl
theorem lv_at {w : World} {R : Nat} (h : w.heap[R]? = some (.cells #[.int .i64 1, .int .i64 2, .int .i64 3, .int .i64 4, .int .i64 5, .int .i64 6, .int .i64 6, .int .i64 7, .int .i64 7, .int .i64 7, .int .i64 7, .int .i64 8, .int .i64 8, .int .i64 9, .int .i64 9] 3 (0, 0))) {p : Nat} (hp : p < 15) : w.cell? ⟨R, p, none⟩ = some (.int .i64 (sgnV.getD p 0 : Nat)) := by
  rw [Lib.cell_of_heap h]
  match p, hp with
  | 0, _ => rfl
  | 1, _ => rfl
  | 2, _ => rfl
  | 3, _ => rfl
  | 4, _ => rfl
  | 5, _ => rfl
  | 6, _ => rfl
  | 7, _ => rfl
  | 8, _ => rfl
  | 9, _ => rfl
  | 10, _ => rfl
  | 11, _ => rfl
  | 12, _ => rfl
  | 13, _ => rfl
  | 14, _ => rfl
theorem lv_text {p q : Nat} {A B T1 T2 T3 T4 : ByteArray} (hA : A = S (sg p)) (hB : B = S (sg q)) (t1 : (⟨#[109, 111, 100, 117, 108, 101, 32, 109, 40, 41, 59, 32, 97, 115, 115, 105, 103, 110, 32, 121, 32, 61, 32, 97, 32]⟩ : ByteArray) ++ A = T1) (t2 : T1 ++ (⟨#[32, 98, 32]⟩ : ByteArray) = T2) (t3 : T2 ++ B = T3) (t4 : T3 ++ (⟨#[32, 99, 59, 32, 101, 110, 100, 109, 111, 100, 117, 108, 101]⟩ : ByteArray) = T4) : T4 = S (lvT p q) := by
  apply L_inj
  rw [← t4, ← t3, ← t2, ← t1, L_append, L_append, L_append, L_append, hA, hB, L_S, L_S, L_S]
  rfl
theorem lv_sz {p q : Nat} (hp : p < 15) (hq : q < 15) {A B T1 T2 T3 : ByteArray} (hA : A = S (sg p)) (hB : B = S (sg q)) (t1 : (⟨#[109, 111, 100, 117, 108, 101, 32, 109, 40, 41, 59, 32, 97, 115, 115, 105, 103, 110, 32, 121, 32, 61, 32, 97, 32]⟩ : ByteArray) ++ A = T1) (t2 : T1 ++ (⟨#[32, 98, 32]⟩ : ByteArray) = T2) (t3 : T2 ++ B = T3) : A.size ≤ 2 ∧ B.size ≤ 2 ∧ T1.size ≤ 27 ∧ T2.size ≤ 30 ∧ T3.size ≤ 32 := by
  have h : ∀ i, i < 15 → (sg i).length ≤ 2 := by decide +kernel
  have h1 : A.size ≤ 2 := by rw [hA, ← len_L, L_S]; exact h p hp
  have h2 : B.size ≤ 2 := by rw [hB, ← len_L, L_S]; exact h q hq
  have e1 : T1.size = 25 + A.size := by rw [← t1, ByteArray.size_append]; rfl
  have e2 : T2.size = T1.size + 3 := by rw [← t2, ByteArray.size_append]; rfl
  have e3 : T3.size = T2.size + B.size := by rw [← t3, ByteArray.size_append]
  omega
theorem gen_world {Φ : World → Prop} (w : World) (h : ∀ W, W.heap[w.heap.size]? = some (.cells #[.string ⟨#[124, 124]⟩, .string ⟨#[38, 38]⟩, .string ⟨#[124]⟩, .string ⟨#[94]⟩, .string ⟨#[38]⟩, .string ⟨#[61, 61]⟩, .string ⟨#[33, 61]⟩, .string ⟨#[60]⟩, .string ⟨#[60, 61]⟩, .string ⟨#[62]⟩, .string ⟨#[62, 61]⟩, .string ⟨#[60, 60]⟩, .string ⟨#[62, 62]⟩, .string ⟨#[43]⟩, .string ⟨#[45]⟩] 9) → W.heap[w.heap.size + 1]? = some (.cells #[.int .i64 1, .int .i64 2, .int .i64 3, .int .i64 4, .int .i64 5, .int .i64 6, .int .i64 6, .int .i64 7, .int .i64 7, .int .i64 7, .int .i64 7, .int .i64 8, .int .i64 8, .int .i64 9, .int .i64 9] 3) → Below w.heap.size w W → Φ W) : Φ ((w.alloc (.cells #[.string ⟨#[124, 124]⟩, .string ⟨#[38, 38]⟩, .string ⟨#[124]⟩, .string ⟨#[94]⟩, .string ⟨#[38]⟩, .string ⟨#[61, 61]⟩, .string ⟨#[33, 61]⟩, .string ⟨#[60]⟩, .string ⟨#[60, 61]⟩, .string ⟨#[62]⟩, .string ⟨#[62, 61]⟩, .string ⟨#[60, 60]⟩, .string ⟨#[62, 62]⟩, .string ⟨#[43]⟩, .string ⟨#[45]⟩] 9)).alloc (.cells #[.int .i64 1, .int .i64 2, .int .i64 3, .int .i64 4, .int .i64 5, .int .i64 6, .int .i64 6, .int .i64 7, .int .i64 7, .int .i64 7, .int .i64 7, .int .i64 8, .int .i64 8, .int .i64 9, .int .i64 9] 3)) := by
  refine h _ ?_ ?_ (bel bxS bxS)
  · show ((w.heap.push _).push _)[w.heap.size]? = _
    rw [Array.getElem?_push, if_neg (by simp), Array.getElem?_push, if_pos rfl]
  · show ((w.heap.push _).push _)[w.heap.size + 1]? = _
    rw [Array.getElem?_push, if_pos (by simp)]
end Go.Proofs.YthdhmlojihpfkaaGreat

/- Layer 4: what binds more tightly is read first: the second sign does. -/
namespace Go.Proofs.YthdhmlojihpfkaaGreat
open Go.RowKit Lg
set_option linter.unusedVariables false
set_option linter.unusedSimpArgs false

set_option maxRecDepth 100000 in
set_option maxHeartbeats 8000000 in
theorem lv_A (i k : Int) (w : World) (m1 m2 p q : Nat) (HM1 : bits .and .i64 i 65535 = (m1 : Int)) (HM2 : bits .and .i64 k 65535 = (m2 : Int)) (hp15 : p < 15) (hq15 : q < 15) (r1 : ((m1 : Int)).tmod 15 = (p : Int)) (r2 : ((m2 : Int)).tmod 15 = (q : Int)) (hlt : sgnV.getD p 0 < sgnV.getD q 0) : Calls Tryz.prog 5 #[.int .i64 i, .int .i64 k] w fun e w' => e = .returned (.bool true) ∧ Below w.heap.size w w' := by
  have hX : lvX p q = ⟨sgnO.getD p 0, [], [], false, lvA.f (X.f ⟨sgnO.getD q 0, [], [], false, (lvB p).f ((lvC p q).f .nil), 28 + (sg p).length⟩ .nil), 25⟩ := if_pos hlt
  have HX : Hid _ := hX
  have hlI : ((sgnV.getD p 0 : Nat) : Int) < ((sgnV.getD q 0 : Nat) : Int) := by omega
  obtain ⟨lp, hlp⟩ : ∃ n, n = sgnV.getD p 0 := ⟨_, rfl⟩
  obtain ⟨lq, hlq⟩ : ∃ n, n = sgnV.getD q 0 := ⟨_, rfl⟩
  rw [← hlp, ← hlq] at hlI
  have hpI : (p : Int) < 15 := by omega
  have hqI : (q : Int) < 15 := by omega
  have HP15 : Hid _ := hp15
  have HQ15 : Hid _ := hq15
  have HLP : Hid _ := hlp
  have HLQ : Hid _ := hlq
  clear hX hlt hlp hlq
  go_enter Tryz.func5, Tryz.ntmps5
  go_wp2_with fail
  refine gen_world (Φ := fun W => Code.wp _ _ _ _ W) w ?_
  intro W hs15 hl15 hBW
  have cS := sg_at hs15 HP15.out
  have cT := sg_at hs15 HQ15.out
  have cP := lv_at hl15 HP15.out
  have cQ := lv_at hl15 HQ15.out
  rw [← HLP.out] at cP
  rw [← HLQ.out] at cQ
  have hWl := heap_lt hl15
  obtain ⟨A, hA⟩ : ∃ A, A = S (sg p) := ⟨_, rfl⟩
  obtain ⟨B, hB⟩ : ∃ B, B = S (sg q) := ⟨_, rfl⟩
  rw [← hA] at cS
  rw [← hB] at cT
  obtain ⟨T1, t1⟩ : ∃ T1, (⟨#[109, 111, 100, 117, 108, 101, 32, 109, 40, 41, 59, 32, 97, 115, 115, 105, 103, 110, 32, 121, 32, 61, 32, 97, 32]⟩ : ByteArray) ++ A = T1 := ⟨_, rfl⟩
  obtain ⟨T2, t2⟩ : ∃ T2, T1 ++ (⟨#[32, 98, 32]⟩ : ByteArray) = T2 := ⟨_, rfl⟩
  obtain ⟨T3, t3⟩ : ∃ T3, T2 ++ B = T3 := ⟨_, rfl⟩
  obtain ⟨T4, t4⟩ : ∃ T4, T3 ++ (⟨#[32, 99, 59, 32, 101, 110, 100, 109, 111, 100, 117, 108, 101]⟩ : ByteArray) = T4 := ⟨_, rfl⟩
  obtain ⟨z1, z2, z3, z4, z5⟩ := lv_sz HP15.out HQ15.out hA hB t1 t2 t3
  have e4 := lv_text hA hB t1 t2 t3 t4
  have HTo := fun w => lvTo HP15.out HQ15.out w
  rw [← e4] at HTo
  have HPa := fun g cap w (h : Tks g cap (lvL p q) w) => lvP HP15.out HQ15.out h
  clear e4 hA hB hs15 hl15
  go_region_with (first
    | (go_at_call 7; refine (HTo _).mono ?_; rintro e w1 ⟨g1, cap1, rfl, ht1, hb1⟩)
    | (go_at_call 9; refine (HPa g1 cap1 _ ht1).mono ?_; rintro e w2 ⟨⟨gm, rfl, hm⟩, hb2⟩))
  all_goals
    have hbb : Below W.heap.size W w2 := by first | exact bel hb1 hb2 | exact bel belD (bel hb1 hb2)
    have cP2 := (hbb.cell (p := ⟨w.heap.size + 1, p, none⟩) hWl).trans cP
    have cQ2 := (hbb.cell (p := ⟨w.heap.size + 1, q, none⟩) hWl).trans cQ
    have hWl2 := Nat.lt_of_lt_of_le hWl hbb.size
    obtain ⟨pa, pc, gi, cp, ao, n, c, u2, u3, ul, vl, v0, v1, v2, v3, v4, v5, vk⟩ := hm.at_
    rw [HX.out] at v0 v1 v2 v3 v5 vk
    simp only at v0 v1 v2 v3 v5 vk
    obtain ⟨gk, vx, vy, rfl, rfl, hgk, hcs, _, hyk, hc2⟩ := vk.two_
    obtain ⟨a2, n2, c2, rfl⟩ := hyk.slice_
    obtain ⟨gk2, vx2, vy2, rfl, rfl, hgk2, hcs2, _, _, hc3⟩ := KAt.two_ hyk
    have f1 : w2.cell? ⟨gk, 1, none⟩ = some (.string ⟨#[97]⟩) := hcs 1 _ rfl
    have f2 : w2.cell? ⟨gk, 10, none⟩ = some (.slice (some ⟨gk2, 0, none⟩) 2 c2) := hcs 10 _ rfl
    have f3 : w2.cell? ⟨gk2, 1, none⟩ = some (.string ⟨#[98]⟩) := hcs2 1 _ rfl
    have f4 : w2.cell? ⟨gk2, 7, none⟩ = some (.string ⟨#[99]⟩) := hcs2 7 _ rfl
    clear hcs hcs2 vk hyk hm HTo HPa cS cT cP cQ t1 t2 t3 t4
    have hAw := awake4
    have hc2I : (2 : Int) ≤ (c : Int) := by omega
    go_wp2_with fail
    go_region
    all_goals
      go_wp2_with (first
        | (go_at_call 8; refine (hAw _).mono ?_; rintro e w5 ⟨rfl, hb5⟩))
      go_ret
      exact ⟨rfl, by first | exact bel hBW (bel hbb (bel (bel bxS belD) hb5)) | exact bel hBW (bel hbb (bel bxS hb5))⟩
end Go.Proofs.YthdhmlojihpfkaaGreat

/- Layer 4: what binds more tightly is read first: the first sign does. -/
namespace Go.Proofs.YthdhmlojihpfkaaGreat
open Go.RowKit Lg
set_option linter.unusedVariables false
set_option linter.unusedSimpArgs false

set_option maxRecDepth 100000 in
set_option maxHeartbeats 8000000 in
theorem lv_B (i k : Int) (w : World) (m1 m2 p q : Nat) (HM1 : bits .and .i64 i 65535 = (m1 : Int)) (HM2 : bits .and .i64 k 65535 = (m2 : Int)) (hp15 : p < 15) (hq15 : q < 15) (r1 : ((m1 : Int)).tmod 15 = (p : Int)) (r2 : ((m2 : Int)).tmod 15 = (q : Int)) (hlt : ¬ sgnV.getD p 0 < sgnV.getD q 0) : Calls Tryz.prog 5 #[.int .i64 i, .int .i64 k] w fun e w' => e = .returned (.bool true) ∧ Below w.heap.size w w' := by
  have hX : lvX p q = ⟨sgnO.getD q 0, [], [], false, X.f ⟨sgnO.getD p 0, [], [], false, lvA.f ((lvB p).f .nil), 25⟩ ((lvC p q).f .nil), 28 + (sg p).length⟩ := if_neg hlt
  have HX : Hid _ := hX
  have hlI : ((sgnV.getD q 0 : Nat) : Int) ≤ ((sgnV.getD p 0 : Nat) : Int) := by omega
  obtain ⟨lp, hlp⟩ : ∃ n, n = sgnV.getD p 0 := ⟨_, rfl⟩
  obtain ⟨lq, hlq⟩ : ∃ n, n = sgnV.getD q 0 := ⟨_, rfl⟩
  rw [← hlp, ← hlq] at hlI
  have hpI : (p : Int) < 15 := by omega
  have hqI : (q : Int) < 15 := by omega
  have HP15 : Hid _ := hp15
  have HQ15 : Hid _ := hq15
  have HLP : Hid _ := hlp
  have HLQ : Hid _ := hlq
  clear hX hlt hlp hlq
  go_enter Tryz.func5, Tryz.ntmps5
  go_wp2_with fail
  refine gen_world (Φ := fun W => Code.wp _ _ _ _ W) w ?_
  intro W hs15 hl15 hBW
  have cS := sg_at hs15 HP15.out
  have cT := sg_at hs15 HQ15.out
  have cP := lv_at hl15 HP15.out
  have cQ := lv_at hl15 HQ15.out
  rw [← HLP.out] at cP
  rw [← HLQ.out] at cQ
  have hWl := heap_lt hl15
  obtain ⟨A, hA⟩ : ∃ A, A = S (sg p) := ⟨_, rfl⟩
  obtain ⟨B, hB⟩ : ∃ B, B = S (sg q) := ⟨_, rfl⟩
  rw [← hA] at cS
  rw [← hB] at cT
  obtain ⟨T1, t1⟩ : ∃ T1, (⟨#[109, 111, 100, 117, 108, 101, 32, 109, 40, 41, 59, 32, 97, 115, 115, 105, 103, 110, 32, 121, 32, 61, 32, 97, 32]⟩ : ByteArray) ++ A = T1 := ⟨_, rfl⟩
  obtain ⟨T2, t2⟩ : ∃ T2, T1 ++ (⟨#[32, 98, 32]⟩ : ByteArray) = T2 := ⟨_, rfl⟩
  obtain ⟨T3, t3⟩ : ∃ T3, T2 ++ B = T3 := ⟨_, rfl⟩
  obtain ⟨T4, t4⟩ : ∃ T4, T3 ++ (⟨#[32, 99, 59, 32, 101, 110, 100, 109, 111, 100, 117, 108, 101]⟩ : ByteArray) = T4 := ⟨_, rfl⟩
  obtain ⟨z1, z2, z3, z4, z5⟩ := lv_sz HP15.out HQ15.out hA hB t1 t2 t3
  have e4 := lv_text hA hB t1 t2 t3 t4
  have HTo := fun w => lvTo HP15.out HQ15.out w
  rw [← e4] at HTo
  have HPa := fun g cap w (h : Tks g cap (lvL p q) w) => lvP HP15.out HQ15.out h
  clear e4 hA hB hs15 hl15
  go_region_with (first
    | (go_at_call 7; refine (HTo _).mono ?_; rintro e w1 ⟨g1, cap1, rfl, ht1, hb1⟩)
    | (go_at_call 9; refine (HPa g1 cap1 _ ht1).mono ?_; rintro e w2 ⟨⟨gm, rfl, hm⟩, hb2⟩))
  all_goals
    have hbb : Below W.heap.size W w2 := by first | exact bel hb1 hb2 | exact bel belD (bel hb1 hb2)
    have cP2 := (hbb.cell (p := ⟨w.heap.size + 1, p, none⟩) hWl).trans cP
    have cQ2 := (hbb.cell (p := ⟨w.heap.size + 1, q, none⟩) hWl).trans cQ
    have hWl2 := Nat.lt_of_lt_of_le hWl hbb.size
    obtain ⟨pa, pc, gi, cp, ao, n, c, u2, u3, ul, vl, v0, v1, v2, v3, v4, v5, vk⟩ := hm.at_
    rw [HX.out] at v0 v1 v2 v3 v5 vk
    simp only at v0 v1 v2 v3 v5 vk
    obtain ⟨gk, vx, vy, rfl, rfl, hgk, hcs, hyk, _, hc2⟩ := vk.two_
    obtain ⟨a2, n2, c2, rfl⟩ := hyk.slice_
    obtain ⟨gk2, vx2, vy2, rfl, rfl, hgk2, hcs2, _, _, hc3⟩ := KAt.two_ hyk
    have f1 : w2.cell? ⟨gk, 7, none⟩ = some (.string ⟨#[99]⟩) := hcs 7 _ rfl
    have f2 : w2.cell? ⟨gk, 4, none⟩ = some (.slice (some ⟨gk2, 0, none⟩) 2 c2) := hcs 4 _ rfl
    have f3 : w2.cell? ⟨gk2, 1, none⟩ = some (.string ⟨#[97]⟩) := hcs2 1 _ rfl
    have f4 : w2.cell? ⟨gk2, 7, none⟩ = some (.string ⟨#[98]⟩) := hcs2 7 _ rfl
    clear hcs hcs2 vk hyk hm HTo HPa cS cT cP cQ t1 t2 t3 t4
    have hAw := awake4
    have hc2I : (2 : Int) ≤ (c : Int) := by omega
    go_wp2_with fail
    go_region
    all_goals
      go_wp2_with (first
        | (go_at_call 8; refine (hAw _).mono ?_; rintro e w5 ⟨rfl, hb5⟩))
      go_ret
      exact ⟨rfl, by first | exact bel hBW (bel hbb (bel (bel bxS belD) hb5)) | exact bel hBW (bel hbb (bel bxS hb5))⟩
end Go.Proofs.YthdhmlojihpfkaaGreat

/- Layer 4: what binds more tightly is read first: the law. -/
namespace Go.Proofs.YthdhmlojihpfkaaGreat
open Go.RowKit Lg
set_option linter.unusedVariables false
set_option linter.unusedSimpArgs false

set_option maxRecDepth 100000 in
set_option maxHeartbeats 8000000 in
theorem SyntaxLevels_c (i k : Int) (w : World) : Calls Tryz.prog 5 #[.int .i64 i, .int .i64 k] w fun e w' => e = .returned (.bool true) ∧ Below w.heap.size w w' := by
  have HM1 := mask16 i
  have HM2 := mask16 k
  obtain ⟨m1, hm1⟩ : ∃ m : Nat, i % 65536 = m := ⟨(i % 65536).toNat, by omega⟩
  obtain ⟨m2, hm2⟩ : ∃ m : Nat, k % 65536 = m := ⟨(k % 65536).toNat, by omega⟩
  rw [hm1] at HM1
  rw [hm2] at HM2
  have hmm1 : m1 < 65536 := by omega
  have hmm2 : m2 < 65536 := by omega
  obtain ⟨p, hp⟩ : ∃ p, p = m1 % 15 := ⟨_, rfl⟩
  obtain ⟨q, hq⟩ : ∃ q, q = m2 % 15 := ⟨_, rfl⟩
  have hp15 : p < 15 := by omega
  have hq15 : q < 15 := by omega
  have r1 : ((m1 : Int)).tmod 15 = (p : Int) := by rw [Int.tmod_eq_emod_of_nonneg (by omega)]; omega
  have r2 : ((m2 : Int)).tmod 15 = (q : Int) := by rw [Int.tmod_eq_emod_of_nonneg (by omega)]; omega
  clear hm1 hm2 hp hq
  by_cases hlt : sgnV.getD p 0 < sgnV.getD q 0
  · exact lv_A i k w m1 m2 p q HM1 HM2 hp15 hq15 r1 r2 hlt
  · exact lv_B i k w m1 m2 p q HM1 HM2 hp15 hq15 r1 r2 hlt
end Go.Proofs.YthdhmlojihpfkaaGreat
