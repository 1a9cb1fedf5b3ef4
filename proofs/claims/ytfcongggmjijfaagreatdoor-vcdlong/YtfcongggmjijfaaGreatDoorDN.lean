/- Layer 19: VcdLong, walked over what the program's functions tell. -/
import Derived.Test.YtfcongggmjijfaaGreatDoorDM
namespace Go.Proofs.YtfcongggmjijfaaGreatDoor
set_option maxRecDepth 100000
open Go.RowKit Lg Nl Go.Maps Wf Vd
set_option linter.unusedVariables false
set_option linter.unusedSimpArgs false

/-- Read of bytes that are too many -/
def ReadL : Prop := ∀ (s : ByteArray) (w : World), s.size = 1048577 → PowT w →
  Calls Tryz.prog 9 #[.string s] w fun e w' => e = .returned (.tuple #[.agg #[.slice none 0 0, .slice none 0 0, .slice none 0 0, .slice none 0 0], .int .i64 4]) ∧ Below w.heap.size w w'
theorem mask8 (n : Int) : bits .and .i64 n 255 = n % 256 := by
  have hpos : 0 < 2 ^ 8 := by decide
  have h1 : (BitVec.ofInt 64 (255 : Int)).toNat = 255 := by decide
  have key : (BitVec.ofInt 64 n &&& BitVec.ofInt 64 (255 : Int)).toNat = (n % ((2 ^ 64 : Nat) : Int)).toNat % 2 ^ 8 := by
    rw [BitVec.toNat_and, BitVec.toNat_ofInt, h1, show (255 : Nat) = 2 ^ 8 - 1 by decide, Nat.and_two_pow_sub_one_eq_mod]
  show IntKind.i64.wrap ((BitVec.ofInt 64 n &&& BitVec.ofInt 64 (255 : Int)).toNat : Nat) = n % 256
  rw [key, IntKind.wrap_i64]
  have h2 : ((n % ((2 ^ 64 : Nat) : Int)).toNat % 2 ^ 8 : Nat) = n % 256 := by
    rw [Int.natCast_emod, Int.toNat_of_nonneg (Int.emod_nonneg _ (by decide)), Int.emod_emod_of_dvd]
    · rfl
    · exact Int.natCast_dvd_natCast.2 (Nat.pow_dvd_pow 2 (by omega))
  rw [h2]; omega
theorem mask1 (n : Int) : bits .and .i64 n 1 = n % 2 := by
  have hpos : 0 < 2 ^ 1 := by decide
  have h1 : (BitVec.ofInt 64 (1 : Int)).toNat = 1 := by decide
  have key : (BitVec.ofInt 64 n &&& BitVec.ofInt 64 (1 : Int)).toNat = (n % ((2 ^ 64 : Nat) : Int)).toNat % 2 ^ 1 := by
    rw [BitVec.toNat_and, BitVec.toNat_ofInt, h1, show (1 : Nat) = 2 ^ 1 - 1 by decide, Nat.and_two_pow_sub_one_eq_mod]
  show IntKind.i64.wrap ((BitVec.ofInt 64 n &&& BitVec.ofInt 64 (1 : Int)).toNat : Nat) = n % 2
  rw [key, IntKind.wrap_i64]
  have h2 : ((n % ((2 ^ 64 : Nat) : Int)).toNat % 2 ^ 1 : Nat) = n % 2 := by
    rw [Int.natCast_emod, Int.toNat_of_nonneg (Int.emod_nonneg _ (by decide)), Int.emod_emod_of_dvd]
    · rfl
    · exact Int.natCast_dvd_natCast.2 (Nat.pow_dvd_pow 2 (by omega))
  rw [h2]; omega
theorem many_of (n : Int) : ∃ N : Nat, N ≤ 4155 ∧ wrap64 (3900 + bits .and .i64 n 255) = (N : Int) := by
  rw [mask8]
  refine ⟨(3900 + n % 256).toNat, by omega, ?_⟩
  unfold wrap64
  omega
def bitL (i : Nat) : UInt8 := if i % 2 = 1 then 49 else 48
def chL (i : Nat) : Ch := ⟨i, 0, S (wdT (bitL i))⟩
def liL (n : Nat) : List Ch := (List.range n).map chL
def xL (n : Nat) : Wv := ⟨[⟨#[97]⟩], [256], [S (wdT 120)], liL n⟩
theorem bit_wrap (i : Nat) : IntKind.u8.wrap (IntKind.i64.wrap (48 + (i : Int) % 2)) = ((bitL i).toNat : Int) := by
  unfold bitL
  by_cases h : i % 2 = 1
  · have e : (i : Int) % 2 = 1 := by omega
    rw [if_pos h, e]; decide +kernel
  · have e : (i : Int) % 2 = 0 := by omega
    rw [if_neg h, e]; decide +kernel
theorem x_grown {wx w3 w9 : World} {X i cl : Nat} {al : Option Addr} {o : Obj} {vo : Obj} {xs : List Value} (hg : (w3.alloc vo).grownBy w9 (Value.slice al i cl).ownBlock) (hr : wx.ownsRow (X + 1) 38 3 (.slice al i cl) i xs) (hb : Below wx.heap.size wx w3) (hl : X < wx.heap.size) (hx : wx.heap[X]? = some o) : w9.heap[X]? = some o := by
  have l3 := Nat.lt_of_lt_of_le hl hb.size
  have h1 := hg.block X (by rw [size_al]; omega) (fun e => by have := (World.ownsRow.lt hr X e.symm).1; omega)
  exact h1.trans ((alOld l3).trans ((hb.block X hl).trans hx))
theorem liL_succ (n : Nat) : liL (n + 1) = liL n ++ [chL n] := by unfold liL; rw [List.range_succ, List.map_append]; rfl
theorem liL_len (n : Nat) : (liL n).length = n := by simp [liL]
theorem set43 {W : World} {b : Nat} {y0 y1 y2 y3 y : Value} {t : TypeId} (h : W.heap[b]? = some (.cells #[y0, y1, y2, y3] t (0, 0))) : (W.setCell ⟨b, 3, none⟩ y).heap[b]? = some (.cells #[y0, y1, y2, y] t (0, 0)) := by
  simp only [World.setCell]
  rw [Array.getElem?_modify, if_pos rfl, h]; rfl
theorem own_keepN {w w' : World} {B e z n : Nat} {v : Value} {xs : List Value} (h : w.ownsRow B e z v n xs) (hk : ∀ g, v.ownBlock = some g → w'.heap[g]? = w.heap[g]?) : w'.ownsRow B e z v n xs := by
  obtain ⟨h1, h2⟩ := h
  refine ⟨h1, ?_⟩
  rcases h2 with h2 | ⟨g, cap, cur, rfl, hg, hh, r⟩
  · exact Or.inl h2
  · exact Or.inr ⟨g, cap, cur, rfl, hg, (hk g rfl).trans hh, r⟩
/-- so many bytes -/
def manyB : ByteArray := S (List.replicate 1048577 0)
theorem rep0_getD (n i : Nat) (h : i < n) : ((List.replicate n (0 : UInt8)).map fun b => (b.toNat : Int)).getD i 0 = 0 := by
  simp [List.getD_eq_getElem?_getD, List.getElem?_map, List.getElem?_replicate, h]
theorem conv_made (n : Nat) (W : World) (g : Nat) (h : W.rowIs g 5 n (fun _ => .int .u8 0)) : (convert 39 9 (.slice (some ⟨g, 0, none⟩) n n)).run Tryz.prog W = .ok (.string (S (List.replicate n 0))) W := by
  have e := run_convert_bytes_arg W 39 5 Tryz.underlying39 Tryz.underlying5 g 0 n n ((List.replicate n (0 : UInt8)).map fun b => (b.toNat : Int)) (by rw [List.length_map, List.length_replicate]) (fun i hi => by
      rw [Nat.zero_add, h.cell hi]
      exact congrArg (fun z => some (Value.int .u8 z)) (rep0_getD n i hi).symm) 9 Tryz.underlying9
  rw [e, strNums]
theorem make_many (n : Nat) (hn : n ≤ 2000000) (W : World) : (Instr.makeSlice 39 (.int .i64 n) (.int .i64 n)).run Tryz.prog W = .ok (.slice (some ⟨W.heap.size, 0, none⟩) n n) (W.alloc (.cells (madeCells #[.int .u8 0] n) 5)) :=
  run_make_row' (P := Tryz.prog) 39 5 (.int .u8 0) 1 Tryz.underlying39 (by kernel_rfl) rfl .i64 .i64 n (by omega) (by omega) W
theorem manyB_size : manyB.size = 1048577 := by unfold manyB; rw [size_S, List.length_replicate]
theorem wdT_size (b : UInt8) : (S (wdT b)).size = 256 := by rw [size_S]; unfold wdT; rw [List.length_replicate]
theorem xL_sz (n : Nat) (hn : n ≤ 4155) : Sz (xL n) := by
  refine ⟨?_, ?_, ?_, ?_⟩
  · intro s hs; simp [xL] at hs; subst hs; show (1 : Nat) ≤ _; decide
  · intro s hs; simp [xL] at hs; subst hs; rw [wdT_size]; decide
  · intro c hc
    have hc : c ∈ liL n := hc
    unfold liL at hc
    obtain ⟨i, _, rfl⟩ := List.mem_map.1 hc
    show (S (wdT (bitL i))).size ≤ _
    rw [wdT_size]; decide
  · show (liL n).length ≤ _; rw [liL_len]; omega
theorem xL_bd (n : Nat) (hn : n ≤ 4155) : Bd (xL n) := ⟨by show (1 : Nat) ≤ _; decide, by show (1 : Nat) ≤ _; decide, by show (1 : Nat) ≤ _; decide, by show (liL n).length ≤ _; rw [liL_len]; omega⟩
set_option maxHeartbeats 4000000 in
set_option maxRecDepth 1000000 in
theorem VcdLong_c (P : PD) (hL : ReadL) (many : Int) (w : World) (hp : PowT w) : Calls Tryz.prog 5 #[.int .i64 many] w fun e w' => e = .returned (.bool true) ∧ Below w.heap.size w w' := by
  have HP : Hid PD := P
  have HL : Hid ReadL := hL
  have HT : Hid (PowT w) := hp
  obtain ⟨N, hN, hNm⟩ := many_of many
  have HN : Hid (N ≤ 4155) := hN
  clear P hL hp hN
  have hwd := wide_c 120
  go_enter Tryz.func5, Tryz.ntmps5
  go_upto_region 3 with (first
    | (go_at_call 12; refine (hwd _).mono ?_; rintro e w1 ⟨rfl, hb1⟩))
  clear hwd hNm
  obtain ⟨W2, hW2⟩ : ∃ W2, W2 = (w1.alloc (.cells #[.string (S (wdT 120))] 9)).alloc (.cells #[.slice (some ⟨w.heap.size, 0, none⟩) 1 1, .slice (some ⟨w.heap.size + 1, 0, none⟩) 1 1, .slice (some ⟨w1.heap.size, 0, none⟩) 1 1, .slice none 0 0] 26) := ⟨_, rfl⟩
  rw [← hW2]
  have hb0 : Below w.heap.size w ((w.alloc (.cells #[.string ⟨#[97]⟩] 9)).alloc (.cells #[.int .i64 256] 3)) := belA (belA (Below.refl _ _) _) _
  have HB2 : Hid (Below w.heap.size w W2) := by rw [hW2]; exact belA (belA (bel hb0 hb1) _) _
  have HX2 : Hid (W2.heap[w1.heap.size + 1]? = some (.cells #[.slice (some ⟨w.heap.size, 0, none⟩) 1 1, .slice (some ⟨w.heap.size + 1, 0, none⟩) 1 1, .slice (some ⟨w1.heap.size, 0, none⟩) 1 1, .slice none 0 0] 26 (0, 0))) := by rw [hW2]; exact alAt (by simp)
  have hs1 := hb1.size
  rw [size_al, size_al] at hs1
  have HE0 : Hid (W2.heap[w.heap.size]? = some (.cells #[.string ⟨#[97]⟩] 9 (0, 0)) ∧ w.heap.size < w1.heap.size + 1) := by
    refine ⟨?_, by omega⟩
    rw [hW2]; exact (alOld (by simp; omega)).trans ((alOld (by omega)).trans ((hb1.block _ (by simp; omega)).trans ((alOld (by simp)).trans (alAt rfl))))
  have HE1 : Hid (W2.heap[w.heap.size + 1]? = some (.cells #[.int .i64 256] 3 (0, 0)) ∧ w.heap.size + 1 < w1.heap.size + 1) := by
    refine ⟨?_, by omega⟩
    rw [hW2]; exact (alOld (by simp; omega)).trans ((alOld (by omega)).trans ((hb1.block _ (by simp)).trans (alAt (by simp))))
  have HE2 : Hid (W2.heap[w1.heap.size]? = some (.cells #[.string (S (wdT 120))] 9 (0, 0)) ∧ w1.heap.size < w1.heap.size + 1) := by
    refine ⟨?_, by omega⟩
    rw [hW2]; exact (alOld (by simp)).trans (alAt rfl)
  have HXl : Hid (w.heap.size ≤ w1.heap.size + 1) := by show _ ≤ _; omega
  clear hW2 hb1 hb0 hs1
  generalize w.heap.size + 1 = E1 at *
  generalize w1.heap.size = E2 at *
  generalize hE0 : w.heap.size = E0 at *
  generalize E2 + 1 = X at *
  have lx := hLt HX2.out
  go_wp2_with fail
  go_loopg [5] N (fun g s5 wr => ∃ (i : Nat) (al : Option Addr) (cl : Nat), i ≤ N ∧ g = N - i ∧ s5 = .int .i64 i ∧ Hid (wr.heap[X]? = some (.cells #[.slice (some ⟨E0, 0, none⟩) 1 1, .slice (some ⟨E1, 0, none⟩) 1 1, .slice (some ⟨E2, 0, none⟩) 1 1, .slice al i cl] 26 (0, 0))) ∧ Hid (wr.ownsRow (X + 1) 38 3 (.slice al i cl) i (chs (liL i))) ∧ Hid (Below X W2 wr))
  case atStart => exact ⟨0, none, 0, Nat.zero_le _, rfl, rfl, HX2, World.ownsRow_nil _ _ _ _, Below.refl _ _⟩
  case round =>
    obtain ⟨i, al, cl, hi, rfl, rfl, HXr, HRr, HBr⟩ := hrel
    obtain ⟨wx, hwx⟩ : ∃ wx, wx = wr := ⟨_, rfl⟩
    rw [← hwx] at HXr HRr HBr ⊢
    clear hwx
    obtain ⟨x0, x1, x2, x3⟩ := cells4 HXr.out
    have lxx := hLt HXr.out
    by_cases hin : i < N
    · have i0 : (0 : Int) ≤ (i : Int) := by omega
      have i1 : (i : Int) < (N : Int) := by omega
      have HWd := hidV (wide_c (bitL i))
      have m1 := mask1 (i : Int)
      obtain ⟨jj, hjj⟩ := infoCh
      have HJ : Hid (Tryz.prog.info? 38 = some jj ∧ jj.zero = some (.agg #[.int .i64 0, .int .i64 0, .string ⟨#[]⟩]) ∧ jj.size = 3 ∧ jj.bytes = 32) := hjj
      clear hjj
      obtain ⟨V, hV⟩ : ∃ V, V = S (wdT (bitL i)) := ⟨_, rfl⟩
      rw [← hV] at HWd
      have HV : Hid (chL i = ⟨i, 0, V⟩) := by show chL i = _; unfold chL; rw [hV]
      clear hV
      obtain ⟨bz, hbz⟩ : ∃ bz, bz = ((bitL i).toNat : Int) := ⟨_, rfl⟩
      rw [← hbz] at HWd
      have hc8 : IntKind.u8.wrap (IntKind.i64.wrap (48 + (i : Int) % 2)) = bz := (bit_wrap i).trans hbz.symm
      have HC8 : Hid (IntKind.u8.wrap (IntKind.i64.wrap (48 + (i : Int) % 2)) = bz) := hc8
      clear hc8
      have HIn : Hid (i < N) := hin
      have HI4 : Hid (i ≤ 4398046511000) := by have := HN.out; show _ ≤ _; omega
      have HXX : Hid (X + 1 ≤ wx.heap.size) := lxx
      have HX1 : Hid (wx.drew.heap[X]? = some (.cells #[.slice (some ⟨E0, 0, none⟩) 1 1, .slice (some ⟨E1, 0, none⟩) 1 1, .slice (some ⟨E2, 0, none⟩) 1 1, .slice al i cl] 26 (0, 0))) := HXr.out
      have HR1 : Hid (wx.drew.ownsRow (X + 1) 38 3 (.slice al i cl) i (chs (liL i))) := own_keepN HRr.out fun _ _ => rfl
      have HB1' : Hid (Below X W2 wx.drew) := HBr.out.drew
      clear hbz
      go_upto_region 6 with fail
      go_region_law (first
        | (refine step_own rfl _ _ 24 rfl (X + 1) 38 jj _ 3 32 Tryz.underlying24 HJ.out.1 HJ.out.2.1 HJ.out.2.2.1 HJ.out.2.2.2 rfl (by decide) (.slice al i cl) i (chs (liL i)) (by simp [Act.eval, Act.put]) (HR3.out.alloc _) ⟨w3.heap.size, 0, none⟩ 1 1 [.int .i64 (i : Int), .int .i64 0, .string V] (by simp [Act.eval, Act.put]) rfl (fun j u hj => new3 _ ⟨(i : Int), 0, V⟩ 38 _ rfl j u hj) (one3 ⟨(i : Int), 0, V⟩) (app_b1 rfl HI4.out) (app_b2 rfl HI4.out) (Nat.le_trans HZ3.out (by simp)) ?_; intro va wa howna hgrowa; obtain ⟨aa, ca, rfl⟩ := own_slice howna; have HOa := hidV howna; have HGa := hidV hgrowa; have hxa : wa.heap[X]? = some (.cells #[.slice (some ⟨E0, 0, none⟩) 1 1, .slice (some ⟨E1, 0, none⟩) 1 1, .slice (some ⟨E2, 0, none⟩) 1 1, .slice al i cl] 26 (0, 0)) := (hgrowa.block X (by have := hLt HX3.out; simp; omega) (fun e => by have := (World.ownsRow.lt HR3.out X e.symm).1; omega)).trans ((alOld (hLt HX3.out)).trans HX3.out); have HXa := hidV hxa; have da : wa.cell? ⟨X, 3, none⟩ = some (.slice al i cl) := (by rw [Lib.cell_of_heap hxa]; rfl); have fa : wa.frozen? ⟨X, 3, none⟩ = false := Lib.frozen_of_heap hxa 3; clear howna hgrowa hxa)
        | (go_simp; go_wp2_with (go_at_call 12; rw [HC8.out]; refine (HWd.out _).mono ?_; rintro e w3 ⟨rfl, hb3⟩; have HX3 : Hid (w3.heap[X]? = some (.cells #[.slice (some ⟨E0, 0, none⟩) 1 1, .slice (some ⟨E1, 0, none⟩) 1 1, .slice (some ⟨E2, 0, none⟩) 1 1, .slice al i cl] 26 (0, 0))) := (hb3.block X (hLt HX1.out)).trans HX1.out; have HR3 : Hid (w3.ownsRow (X + 1) 38 3 (.slice al i cl) i (chs (liL i))) := own_below HR1.out hb3; have HB3 : Hid (Below X W2 w3) := HB1'.out.trans (hb3.mono (Nat.le_of_lt (hLt HX1.out))); have HZ3 : Hid (X + 1 ≤ w3.heap.size) := Nat.le_trans HXX.out hb3.size; obtain ⟨d0, d1, d2, d3⟩ := cells4 HX3.out; have da9 : (w3.alloc (.cells #[.int .i64 (i : Int), .int .i64 0, .string V] 38)).cell? ⟨X, 3, none⟩ = some (.slice al i cl) := (by rw [Lib.cell_of_heap ((alOld (hLt HX3.out)).trans HX3.out)]; rfl); clear hb3)))
      all_goals (
        go_wp2_with fail
        go_roundg (N - (i + 1))
        case measure => have := HIn.out; omega
        case rel =>
          refine ⟨i + 1, aa, ca, HIn.out, rfl, ?_, ?_, ?_, ?_⟩
          · first | exact wrap_succ (n := 4155) (by have := HIn.out; have := HN.out; omega) (by decide) | rfl | (congr 1; unfold wrap64; have := HIn.out; have := HN.out; omega)
          · exact set43 HXa.out
          · show World.ownsRow _ _ _ _ _ _ _
            rw [liL_succ, HV.out, show chs (liL i ++ [(⟨(i : Int), 0, V⟩ : Ch)]) = chs (liL i) ++ [.int .i64 (i : Int), .int .i64 0, .string V] from by unfold chs; rw [List.flatMap_append]; rfl]
            exact own_keepN HOa.out fun g e => Below.heap_setCell _ _ _ _ (show g ≠ X from by have := (World.ownsRow.lt HOa.out g e).1; omega)
          · have hg : Below X W2 wa := by
              have h1 : Below X W2 (w3.alloc (.cells #[.int .i64 (i : Int), .int .i64 0, .string V] 38)) := HB3.out.alloc (by have := HZ3.out; omega) _
              exact ⟨HGa.out.os.trans h1.os, HGa.out.tape.trans h1.tape, HGa.out.output.trans h1.output, Nat.le_trans h1.size HGa.out.size, fun k hk => (HGa.out.block k (by have := HZ3.out; simp; omega) (fun e => by have := (World.ownsRow.lt HR3.out k e.symm).1; omega)).trans (h1.block k hk)⟩
            exact hg.setCell (p := ⟨X, 3, none⟩) (Nat.le_refl _) _)
    · have hie : i = N := by omega
      subst hie
      have i5 : ¬ (i : Int) < (i : Int) := by omega
      have g0 := (HBr.out.block E0 HE0.out.2).trans HE0.out.1
      have g1 := (HBr.out.block E1 HE1.out.2).trans HE1.out.1
      have g2 := (HBr.out.block E2 HE2.out.2).trans HE2.out.1
      have HWv : Hid (WvAt wx (.slice (some ⟨E0, 0, none⟩) 1 1) (.slice (some ⟨E1, 0, none⟩) 1 1) (.slice (some ⟨E2, 0, none⟩) 1 1) (.slice al i cl) (xL i)) := by
        refine ⟨⟨_, _, rfl, ⟨Nat.le_refl _, fun e => by cases e⟩, Or.inr ⟨E0, 0, rfl, hLt g0, ?_⟩⟩, ⟨_, _, rfl, Nat.le_refl _, Or.inr ⟨E1, 0, rfl, hLt g1, ?_⟩⟩, ⟨_, _, rfl, ⟨Nat.le_refl _, fun e => by cases e⟩, Or.inr ⟨E2, 0, rfl, hLt g2, ?_⟩⟩, ?_⟩
        · intro k hk
          match k, hk with
          | 0, _ => rw [Lib.cell_of_heap g0]; rfl
        · intro k hk
          match k, hk with
          | 0, _ => rw [Lib.cell_of_heap g1]; rfl
        · intro k hk
          match k, hk with
          | 0, _ => rw [Lib.cell_of_heap g2]; rfl
        · have h : wx.ownsRow (X + 1) 38 3 (.slice al i cl) (liL i).length (chs (liL i)) := by rw [liL_len]; exact HRr.out
          exact own_chs h
      have HWd : Hid (Wd wx (.slice (some ⟨E0, 0, none⟩) 1 1) (.slice (some ⟨E1, 0, none⟩) 1 1) (.slice (some ⟨E2, 0, none⟩) 1 1) (.slice al i cl) (xL i)) := ⟨HWv.out, xL_sz i HN.out, xL_bd i HN.out, by show (liL i).length ≤ _; rw [liL_len]; have := HN.out; omega⟩
      have HBx : Hid (Below E0 w wx) := HB2.out.trans (HBr.out.mono HXl.out)
      have HTx : Hid (PowT wx) := HT.out.bel (by rw [hE0]; exact HBx.out)
      obtain ⟨T, hT⟩ : ∃ T, T = S (wrT (xL i)) := ⟨_, rfl⟩
      obtain ⟨o, ho⟩ : ∃ o, o = wrE (xL i) := ⟨_, rfl⟩
      have HTt : Hid (T = S (wrT (xL i))) := hT
      have HOo : Hid (o = wrE (xL i)) := ho
      have HZw : Hid (w.heap.size = E0) := hE0
      clear hT ho g0 g1 g2 hE0 HE0 HE1 HE2 HX2 HWv hin hi
      generalize xL i = xl at *
      go_upto_region 8 with (first
        | (go_at_call 6; refine (HWd.out.write HP.out HTx.out HTt.out HOo.out).mono ?_; rintro e y1 ⟨rfl, hb1⟩))
      have HB1 : Hid (Below wx.heap.size wx y1) := hb1
      clear hb1 x0 x1 x2 x3
      obtain ⟨x0, x1, x2, x3⟩ := cells4 ((HB1.out.block X lxx).trans HXr.out)
      go_upto_region 9 with (first
        | (go_at_call 7; refine ((HWd.out.below HB1.out).rwrite (HTx.out.bel HB1.out) HTt.out HOo.out).mono ?_; rintro e y2 ⟨rfl, hb2⟩))
      have HB2y : Hid (Below y1.heap.size y1 y2) := hb2
      clear hb2 x0 x1 x2 x3
      obtain ⟨V, hV⟩ : ∃ V, V = y2.alloc (.cells (madeCells #[.int .u8 0] 1048577) 5) := ⟨_, rfl⟩
      have hmk : (Instr.makeSlice 39 (.int .i64 1048577) (.int .i64 1048577)).run Tryz.prog y2 = .ok (.slice (some ⟨y2.heap.size, 0, none⟩) 1048577 1048577) V := by rw [hV]; exact make_many 1048577 (by omega) y2
      have hcv : (convert 39 9 (.slice (some ⟨y2.heap.size, 0, none⟩) 1048577 1048577)).run Tryz.prog V = .ok (.string manyB) V := by rw [hV]; exact conv_made 1048577 _ _ (World.rowIs.congr (World.rowIs_made _ _ _ _) (fun q _ => rfl))
      have HB3 : Hid (Below y2.heap.size y2 V) := by rw [hV]; exact belA (Below.refl _ _) _
      have HRd : Hid (Calls Tryz.prog 9 #[.string manyB] V fun e w' => e = .returned (.tuple #[.agg #[.slice none 0 0, .slice none 0 0, .slice none 0 0, .slice none 0 0], .int .i64 4]) ∧ Below V.heap.size V w') := HL.out manyB V manyB_size (((HTx.out.bel HB1.out).bel HB2y.out).bel HB3.out)
      clear hV
      generalize manyB = mB at *
      go_upto_region 10 with (first
        | (go_at_call 9; refine HRd.out.mono ?_; rintro e y3 ⟨rfl, hb4⟩))
      obtain ⟨Y, hY⟩ : ∃ Y, Y = y3.alloc (.cells #[.slice none 0 0, .slice none 0 0, .slice none 0 0, .slice none 0 0] 26) := ⟨_, rfl⟩
      rw [← hY]
      have HB4 : Hid (Below V.heap.size V Y) := by rw [hY]; exact belA hb4 _
      clear hY hb4 hmk hcv
      have HTy : Hid (PowT Y) := (((HTx.out.bel HB1.out).bel HB2y.out).bel HB3.out).bel HB4.out
      go_wp2_with (first
        | (go_at_call 8; refine (HP.out.aw _ HTy.out).mono ?_; rintro e y5 ⟨rfl, hb5⟩))
      go_ret
      refine ⟨rfl, ?_⟩
      have h0 : Below w.heap.size w wx := by rw [HZw.out]; exact HBx.out
      exact bel h0 (bel HB1.out (bel HB2y.out (bel HB3.out (bel HB4.out hb5))))
end Go.Proofs.YtfcongggmjijfaaGreatDoor
