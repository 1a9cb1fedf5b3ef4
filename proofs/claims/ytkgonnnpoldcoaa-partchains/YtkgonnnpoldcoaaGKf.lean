/- Texts KS KT, joined: what each part says stands ahead of it. -/
import Derived.Test.YtkgonnnpoldcoaaKR
/- The shared book's fit, binary, clock. -/
namespace Go.Proofs.Ytkgonnnpoldcoaa
open Go.RowKit Lg Nl Go.Maps
set_option linter.unusedVariables false
set_option linter.unusedSimpArgs false

theorem KeepN.below {N : Nat → Prop} {w w' : World} (h : Below w.heap.size w w') : KeepN N w w' := ⟨h.size, fun k hk _ => h.block k hk⟩
theorem LsW.below {B b : Nat} {l : List Nd} {vN vT : Value} {pt : Pt} {w w' : World} (h : LsW B b l vN vT pt w) (hb : Below w.heap.size w w') : LsW B b l vN vT pt w' := by
  obtain ⟨xs, ho, hn⟩ := h.row
  exact ⟨(hb.block b (hLt h.blk)).trans h.blk, ⟨xs, own_below ho hb, hn.keep (KeepN.below hb)⟩, h.hb, own_below h.nt.1 hb, h.nt.2⟩
theorem LsW.newN {B b : Nat} {l : List Nd} {vN vT : Value} {pt : Pt} {w : World} (h : LsW B b l vN vT pt w) : Nb B b vN vT w.heap.size := by
  obtain ⟨xs, ho, _⟩ := h.row
  have h1 := hLt h.blk
  have h2 := h.hb
  refine ⟨⟨by omega, by omega, fun e => ?_⟩, fun e => ?_⟩
  · have := (World.ownsRow.lt ho w.heap.size e).2
    omega
  · have := (World.ownsRow.lt h.nt.1 w.heap.size e).2
    omega
theorem LsW.slice_ {B b : Nat} {l : List Nd} {vN vT : Value} {pt : Pt} {w : World} (h : LsW B b l vN vT pt w) : ∃ ao cap, vN = .slice ao l.length cap := by
  obtain ⟨xs, ho, _⟩ := h.row
  exact own_slice ho
/-- one number in a new block -/
theorem one_new {B b : Nat} {l : List Nd} {vN vT : Value} {pt : Pt} {w : World} (h : LsW B b l vN vT pt w) (z : Int) : IntsN (w.alloc (.cells #[.int .i64 z] 3)) (Nb B b vN vT) (.slice (some ⟨w.heap.size, 0, none⟩) 1 1) [z] := by
  refine ⟨_, 1, rfl, Nat.le_refl _, Or.inr ⟨w.heap.size, 0, rfl, h.newN, by simp, fun i hi => ?_⟩⟩
  have h0 : i = 0 := by simpa using hi
  subst h0
  rw [Lib.cell_of_heap (alAt rfl)]; rfl
def fitL (l : List Nd) (k : Nat) (wd : Int) : Nat × List Nd := if wdAt l k = wd then (k, l) else (l.length, l ++ [⟨6, 0, wd, [(k : Int)], [], 0, 0, 0⟩])
set_option maxHeartbeats 1000000 in
theorem kFit_c (B b : Nat) (l : List Nd) (vN vT : Value) (pt : Pt) (w : World) (k : Nat) (wd : Int) (h : LsW B b l vN vT pt w) (hk : k < l.length) (hl : l.length ≤ 100000) :
    Calls Try.prog 17 #[.pointer (some ⟨b, 0, none⟩), .int .i64 k, .int .i64 wd] w fun e w' => e = .returned (.int .i64 ((fitL l k wd).1 : Nat)) ∧ ∃ vN', LsW B b (fitL l k wd).2 vN' vT pt w' ∧ Bx B b vN vN' w w' := by
  have hN := h.nds
  obtain ⟨g, o, cap, rfl⟩ := hN.some_ (by omega)
  obtain ⟨gl, gd⟩ := hN.wd k hk
  rw [← wdAt_eq hk] at gd
  obtain ⟨n, hn⟩ : ∃ n, n = l.length := ⟨_, rfl⟩
  rw [← hn] at h hk hl
  obtain ⟨p0, p1, p2⟩ := cells3n h.blk
  have hbl := hLt h.blk
  have hBb := h.hb
  have k1 : (0 : Int) ≤ (k : Int) := by omega
  have k2 : (k : Int) < (n : Int) := by omega
  have HA : Hid (∀ W, Below w.heap.size w W → IntsN W (Nb B b (.slice (some ⟨g, o, none⟩) n cap) vT) (.slice (some ⟨w.heap.size, 0, none⟩) 1 1) [(k : Int)] → Calls Try.prog 15 #[.pointer (some ⟨b, 0, none⟩), .agg #[.int .i64 6, .int .i64 0, .int .i64 wd, .slice (some ⟨w.heap.size, 0, none⟩) 1 1, .string (S []), .int .i64 0, .int .i64 0, .int .i64 0]] W fun e w' => e = .returned (.int .i64 (n : Nat)) ∧ ∃ vN', LsW B b (l ++ [⟨6, 0, wd, [(k : Int)], [], 0, 0, 0⟩]) vN' vT pt w' ∧ Bx B b (.slice (some ⟨g, o, none⟩) n cap) vN' W w') := fun W hW hI => by
    have := kAdds_c B b l _ vT pt W ⟨6, 0, wd, [(k : Int)], [], 0, 0, 0⟩ (some ⟨w.heap.size, 0, none⟩) 1 1 (h.below hW) hI (by rw [← hn]; exact hl)
    rw [← hn] at this
    exact this
  have HON := one_new h (k : Int)
  replace HON : Hid _ := HON
  have HL : Hid (LsW B b l (.slice (some ⟨g, o, none⟩) n cap) vT pt w) := h
  have HNL : Hid (n = l.length) := hn
  obtain ⟨x, hx⟩ : ∃ x, x = wdAt l k := ⟨_, rfl⟩
  rw [← hx] at gd
  by_cases he : x = wd
  · subst he
    have HF : Hid (fitL l k x = (k, l)) := by show fitL l k x = (k, l); unfold fitL; rw [if_pos hx.symm]
    clear h hN hx HA HON
    go_enter Try.func17, Try.ntmps17
    go_wp2_with fail
    go_ret
    rw [HF.out]
    exact ⟨rfl, _, HL.out, by rw [← HNL.out]; exact Bx.refl⟩
  · have HF : Hid (fitL l k wd = (n, l ++ [⟨6, 0, wd, [(k : Int)], [], 0, 0, 0⟩])) := by show fitL l k wd = _; unfold fitL; rw [if_neg (by rw [← hx]; exact he), hn]
    have hs0 : (⟨#[]⟩ : ByteArray) = S [] := rfl
    clear h hN hx hn
    go_enter Try.func17, Try.ntmps17
    go_wp2_with (first | (go_at_call 15; refine (HA.out _ (belA (Below.refl _ _) _) HON.out).mono ?_; rintro e w5 ⟨rfl, v5, h5, hb5⟩))
    go_ret
    rw [HF.out]
    refine ⟨rfl, v5, h5, ?_⟩
    rw [← HNL.out]
    exact (Bx.of_below (by omega) (belA (Below.refl _ _) _)).trans hb5
end Go.Proofs.Ytkgonnnpoldcoaa

/- The shared book's vector: some vector, so wide. -/
namespace Go.Proofs.Ytkgonnnpoldcoaa
open Go.RowKit Lg Nl Go.Maps
set_option linter.unusedVariables false
set_option linter.unusedSimpArgs false

theorem wr63 (n : Int) (h₀ : 0 ≤ n) (h₁ : n < 2 ^ 63) : IntKind.i64.wrap n = n := by rw [IntKind.wrap_i64]; omega
theorem maskK (n : Int) (W M : Nat) (hW : W ≤ 62) (hM : M = 2 ^ W - 1) : bits .and .i64 n (M : Int) = n % ((2 ^ W : Nat) : Int) := by
  have hp : 0 < 2 ^ W := Nat.two_pow_pos W
  have hle : 2 ^ W ≤ 2 ^ 62 := Nat.pow_le_pow_right (by decide) hW
  have hm : (BitVec.ofInt 64 (M : Int)).toNat = 2 ^ W - 1 := by
    rw [BitVec.ofInt_natCast, BitVec.toNat_ofNat, hM]; exact Nat.mod_eq_of_lt (by omega)
  have key : (BitVec.ofInt 64 n &&& BitVec.ofInt 64 (M : Int)).toNat = (n % ((2 ^ 64 : Nat) : Int)).toNat % 2 ^ W := by
    rw [BitVec.toNat_and, BitVec.toNat_ofInt, hm, Nat.and_two_pow_sub_one_eq_mod]
  show IntKind.i64.wrap ((BitVec.ofInt 64 n &&& BitVec.ofInt 64 (M : Int)).toNat : Nat) = _
  have hlt : (n % ((2 ^ 64 : Nat) : Int)).toNat % 2 ^ W < 2 ^ W := Nat.mod_lt _ hp
  rw [key, wr63 _ (by omega) (by omega), Int.natCast_emod, Int.toNat_of_nonneg (Int.emod_nonneg _ (by decide))]
  exact Int.emod_emod_of_dvd n (Int.natCast_dvd_natCast.2 (Nat.pow_dvd_pow 2 (by omega)))
theorem and3 (n : Int) : bits .and .i64 n 3 = n % 4 := maskK n 2 3 (by decide) (by decide)
theorem and1 (n : Int) : bits .and .i64 n 1 = n % 2 := maskK n 1 1 (by decide) (by decide)
theorem and15 (n : Int) : bits .and .i64 n 15 = n % 16 := maskK n 4 15 (by decide) (by decide)
def bitOf (z : Int) : UInt8 := if z % 2 = 1 then 49 else 48
theorem bitOf_nat (z : Int) : 48 + z % 2 = ((bitOf z).toNat : Int) := by
  unfold bitOf
  split
  · rename_i h; rw [h]; rfl
  · have : z % 2 = 0 := by omega
    rw [this]; rfl
theorem bitOf_bit (z : Int) : bitB (bitOf z) = true := by unfold bitOf; split <;> decide
theorem vrow {w : World} {b W i : Nat} {f : Nat → UInt8} (h : w.rowIs b 5 W (fun q => .int .u8 (f q).toNat)) {v : Int} {c : UInt8} (hv : v = (c.toNat : Int)) : (w.setCell ⟨b, i, none⟩ (.int .u8 v)).rowIs b 5 W (fun q => .int .u8 (((fun q => if q = i then c else f q) q)).toNat) := by
  subst hv
  refine World.rowIs.congr (World.rowIs.set h i _) (fun q hq => ?_)
  show (if q = i then Value.int .u8 (c.toNat : Int) else .int .u8 (f q).toNat) = .int .u8 ((if q = i then c else f q).toNat : Int)
  split <;> rfl
theorem vbit {f : Nat → UInt8} {i : Nat} {c : UInt8} (h : ∀ q, q < i → bitB (f q) = true) (hc : bitB c = true) : ∀ q, q < i + 1 → bitB ((fun q => if q = i then c else f q) q) = true := by
  intro q hq
  show bitB (if q = i then c else f q) = true
  split
  · exact hc
  · exact h q (by omega)
theorem vbit2 {f : Nat → UInt8} {i : Nat} {c d : UInt8} (h : ∀ q, q < i → bitB (f q) = true) (hc : bitB c = true) : ∀ q, q < i + 1 → bitB ((fun q => if q = i then c else (fun q => if q = i then d else f q) q) q) = true := by
  intro q hq
  show bitB (if q = i then c else (if q = i then d else f q)) = true
  split
  · exact hc
  · exact h q (by omega)
set_option maxRecDepth 100000 in
set_option maxHeartbeats 2000000 in
theorem kVector_c (z : Int) (W : Nat) (w : World) (h1 : 1 ≤ W) (h2 : W ≤ 256) : Calls Try.prog 16 #[.int .i64 z, .int .i64 W] w fun e w' => (∃ v : List UInt8, e = .returned (.string (S v)) ∧ v.length = W ∧ v.all bitB = true) ∧ Below w.heap.size w w' := by
  have hmk := make_c W (by omega)
  have a1 := and1
  have a3 := and3
  have a15 := and15
  go_enter Try.func16, Try.ntmps16
  go_wp2_with fail
  go_loopw [6] (fun s6 w2 => ∃ (i : Nat) (f : Nat → UInt8), i ≤ W ∧ s6 = .int .i64 i ∧ Hid (∀ q, q < i → bitB (f q) = true) ∧ Hid (Below w.heap.size w w2) ∧ Hid (w2.rowIs w.heap.size 5 W (fun q => .int .u8 (f q).toNat))) (fun s6 w2 => W - (intOf s6).toNat)
  case atStart => exact ⟨0, fun _ => 0, Nat.zero_le _, rfl, fun q hq => (by omega), belA (Below.refl _ _) _, World.rowIs.congr (World.rowIs_made _ _ _ _) (fun q _ => rfl)⟩
  case round =>
    obtain ⟨i, f, hi, rfl, HB, HW, HQ⟩ := hrel
    by_cases hlt : i < W
    · have i1 : (0 : Int) ≤ (i : Int) := by omega
      have i2 : (i : Int) < (W : Int) := by omega
      have y0 := HQ.out.cell hlt
      have yf := HQ.out.frozen i
      go_wp2_with fail
      all_goals
        go_roundw
        case rel =>
          first
            | exact ⟨i + 1, _, hlt, by go_num, vbit HB.out (bitOf_bit _), HW.out.setCell (Nat.le_refl _) _, vrow HQ.out (bitOf_nat _)⟩
            | exact ⟨i + 1, _, hlt, by go_num, vbit2 HB.out (c := 120) (d := bitOf (z / 2 ^ (2 * (i % 16)))) (by decide), (HW.out.setCell (Nat.le_refl _) _).setCell (Nat.le_refl _) _, vrow (vrow HQ.out (bitOf_nat _)) rfl⟩
            | exact ⟨i + 1, _, hlt, by go_num, vbit2 HB.out (c := 122) (d := bitOf (z / 2 ^ (2 * (i % 16)))) (by decide), (HW.out.setCell (Nat.le_refl _) _).setCell (Nat.le_refl _) _, vrow (vrow HQ.out (bitOf_nat _)) rfl⟩
        case measure => simp [intOf]; omega
    · obtain rfl : i = W := by omega
      have hcv := conv_c i w.heap.size f _ wr HQ.out (fun q _ => rfl)
      go_wp2_with fail
      go_ret
      exact ⟨⟨tab i f, rfl, by simp [tab], by rw [List.all_eq_true]; intro c hc; unfold tab at hc; obtain ⟨q, hq, rfl⟩ := List.mem_map.1 hc; exact HB.out q (List.mem_range.1 hq)⟩, HW.out⟩
end Go.Proofs.Ytkgonnnpoldcoaa
