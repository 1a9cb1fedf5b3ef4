/- ConstsSums. -/
import Derived.Test.YtbpjgfemopakcaaCN
namespace Go.Proofs.Ytbpjgfemopakcaa
open Go.RowKit Lg Go.Maps
set_option linter.unusedVariables false
set_option linter.unusedSimpArgs false

set_option maxRecDepth 100000 in
set_option maxHeartbeats 8000000 in
theorem ConstsSums_c (a b : Int) (w : World) (ha : -9223372036854775808 ≤ a ∧ a ≤ 9223372036854775807) (hb : -9223372036854775808 ≤ b ∧ b ≤ 9223372036854775807) : Calls Try.prog 6 #[.int .i64 a, .int .i64 b] w fun e w' => e = .returned (.bool true) ∧ Below w.heap.size w w' := by
  have q9 := neD9
  have HA := awake6
  obtain ⟨p, hp⟩ : ∃ p, a.tmod 2147483647 = p := ⟨_, rfl⟩
  obtain ⟨q, hq⟩ : ∃ q, b.tmod 2147483647 = q := ⟨_, rfl⟩
  have pB := tmodB a
  have qB := tmodB b
  rw [hp] at pB
  rw [hq] at qB
  obtain ⟨p1, p2⟩ := pB
  obtain ⟨q1, q2⟩ := qB
  have fp : fitB p = true := by simp [fitB]; omega
  have fq : fitB q = true := by simp [fitB]; omega
  obtain ⟨m, hm⟩ : ∃ m : Int, bits .and .i64 q 7 = m ∧ m = q % 8 := ⟨q % 8, i64_and7 q, rfl⟩
  obtain ⟨hm, hm8⟩ := hm
  have m1 : 0 ≤ m := by omega
  have m2 : m ≤ 7 := by omega
  have HM : Hid _ := hm8
  clear hm8
  obtain ⟨x2, hx2⟩ : ∃ x2, wrap64 (p * wrap64 (2 ^ m.toNat)) = x2 := ⟨_, rfl⟩
  have HX2 : Hid (x2 = p * 2 ^ (q % 8).toNat) := by
    have e1 := shl7 (a := 1) (by omega) (by omega) m1 m2
    have e2 := shl7 p1 p2 m1 m2
    rw [Int.one_mul] at e1
    have e3 : wrap64 (2 ^ m.toNat) = 2 ^ m.toNat := by unfold wrap64; exact (IntKind.wrap_i64 _).symm.trans e1
    have e4 : wrap64 (p * 2 ^ m.toNat) = p * 2 ^ m.toNat := by unfold wrap64; exact (IntKind.wrap_i64 _).symm.trans e2
    show x2 = _
    rw [← hx2, e3, e4, HM.out]
  go_enter Try.func6, Try.ntmps6
  go_upto_if 48 with (first
    | (go_at_call 16; refine (kNew_c _).mono ?_; rintro e w1 ⟨rfl, hs1, hm1, hb1⟩)
    | (go_at_call 11; have hx := hs2; refine (kSet_c hs2 hm2 (by omega) (by omega) ⟨#[66]⟩ (by decide) q fq).mono ?_; rintro e w3 ⟨rfl, hm3, hg3⟩; have hs3 := scAt_grown hs2 hg3 (by omega); have hb3 : Below w.heap.size w w3 := hb2.trans (grown_below hg3 (Nat.le_refl _) hb2.size); have hf3 : NmI _ (nAB p q) := nmI_put hf2 [66] q)
    | (go_at_call 11; refine (kSet_c hs1 hm1 (by omega) (by omega) ⟨#[65]⟩ (by decide) p fp).mono ?_; rintro e w2 ⟨rfl, hm2, hg2⟩; have hs2 := scAt_grown hs1 hg2 (by omega); have hb2 : Below w.heap.size w w2 := hb1.trans (grown_below hg2 (Nat.le_refl _) hb1.size); have hf2 : NmI _ (fPut (fun _ => none) [65] p) := nmI_put nmI0 [65] p))
  go_cut [] from 14 (fun wc => SuW p q (if p < q then 1 else 0) 0 w3 wc)
  case first =>
    go_wp2_with fail
    all_goals go_meet
    · rename_i h; exact suW_new HX2.out (by rw [if_pos h]) rfl
    · rename_i h; exact suW_new HX2.out (by rw [if_neg (by omega)]) rfl
  case rest =>
    have hz := hcut.sz
    have nf := fun j => Lib.frozen_of_heap hcut.n j
    have n4 : wc.cell? ⟨w3.heap.size + 1, 4, none⟩ = some (.int .i64 0) := by rw [Lib.cell_of_heap hcut.n]; rfl
    have HC : Hid _ := hcut
    clear hcut hz
    go_upto_if 53 with fail
    go_cut [] from 14 (fun wd => SuW p q (if p < q then 1 else 0) (if p = q then 1 else 0) w3 wd)
    case first =>
      go_wp2_with fail
      all_goals go_meet
      · rename_i h
        have e : p = q := by simpa using h
        rw [if_pos e]; exact suW_set HC.out
      · rename_i h
        have e : ¬ p = q := by simpa using h
        rw [if_neg e]; exact HC.out
    case rest =>
      clear n4 nf HC
      have hcell := fun j (hj : j < 5) => hcut.cell hj
      have HCL : Hid _ := hcell
      have hsz := hcut.sz
      have hbl : Below w.heap.size w wc := hb3.trans (hcut.bel.mono hb3.size)
      have hsW : ScAt (w.heap.size + 1) w.heap.size wc := hs3.below hcut.bel
      have hmW := hm3.below hcut.bel
      have HBL : Hid _ := hbl
      have HSW : Hid _ := hsW
      have HMW : Hid _ := hmW
      have HZ : Hid _ := hsz
      have HF : Hid _ := hf3
      have hw3 : w.heap.size ≤ w3.heap.size := hb3.size
      clear hcell hsz hbl hsW hmW hcut hs1 hm1 hb1 hs2 hm2 hg2 hb2 hf2 hs3 hm3 hg3 hb3 hf3 hp hq hm hx2 HX2
      go_wp2_with fail
      go_loopg [10] 5 (fun g s10 wr => ∃ j : Nat, j ≤ 5 ∧ g = 5 - j ∧ s10 = .int .i64 j ∧ Hid (Below wc.heap.size wc wr))
      case atStart => exact ⟨0, by omega, rfl, rfl, Below.refl _ _⟩
      case round =>
        obtain ⟨j, hj, rfl, rfl, HB⟩ := hrel
        by_cases h5 : j = 5
        · subst h5
          go_wp2_with (first | (go_at_call 14; refine (HA _).mono ?_; rintro e w5 ⟨rfl, hb5⟩))
          go_ret
          exact ⟨rfl, HBL.out.trans ((HB.out.trans (hb5.mono HB.out.size)).mono HBL.out.size)⟩
        · have hj5 : j < 5 := by omega
          have hjI : (j : Int) < 5 := by omega
          obtain ⟨co, cn⟩ := HCL.out j hj5
          have hl0 : w3.heap.size < wc.heap.size := by have := HZ.out; omega
          have hl1 : w3.heap.size + 1 < wc.heap.size := by have := HZ.out; omega
          have co' := (HB.out.cell (p := ⟨w3.heap.size, j, none⟩) hl0).trans co
          have cn' := (HB.out.cell (p := ⟨w3.heap.size + 1, j, none⟩) hl1).trans cn
          have hls := HB.out.size
          have lt0 : w3.heap.size < wr.heap.size := by omega
          have lt1 : w3.heap.size + 1 < wr.heap.size := by omega
          obtain ⟨op, hop⟩ : ∃ op, op = opsL j := ⟨_, rfl⟩
          obtain ⟨nv, hnv⟩ : ∃ nv, nv = nvL p q j := ⟨_, rfl⟩
          rw [← hop] at co'
          rw [← hnv] at cn'
          have HOP : Hid _ := hop
          have HNV : Hid _ := hnv
          clear co cn hop hnv
          go_upto_if 67 with fail
          go_cut [11] from 56 to 127 (fun s11 wd => ∃ (op1 : Int) (nm1 vl1 : ByteArray), s11 = .pointer (some ⟨wr.heap.size, 0, none⟩) ∧ Hid (wd.heap[wr.heap.size]? = some (.cells #[.int .i64 op1, .string nm1, .string vl1, .bool false, .slice none 0 0, .int .i64 0] 44 (0, 0))) ∧ Hid (Leaf (nAB p q) op1 nm1 vl1 (sec q j)) ∧ Hid (Below wr.heap.size wr wd))
          case first =>
            by_cases hj2 : j = 2
            · subst hj2
              have e15 : op = 15 := HOP.out
              subst e15
              obtain ⟨d2, hd2⟩ : ∃ d2 : Nat, (d2 : Int) = q / 4 % 2 := ⟨(q / 4 % 2).toNat, by omega⟩
              obtain ⟨d1, hd1⟩ : ∃ d1 : Nat, (d1 : Int) = q / 2 % 2 := ⟨(q / 2 % 2).toNat, by omega⟩
              obtain ⟨d0, hd0⟩ : ∃ d0 : Nat, (d0 : Int) = q % 2 := ⟨(q % 2).toNat, by omega⟩
              have g2 : bits .and .i64 (q / 4) 1 = (d2 : Int) := by rw [i64_and1, hd2]
              have g1 : bits .and .i64 (q / 2) 1 = (d1 : Int) := by rw [i64_and1, hd1]
              have g0 : bits .and .i64 q 1 = (d0 : Int) := by rw [i64_and1, hd0]
              have l2 : d2 < 2 := by omega
              have l1 : d1 < 2 := by omega
              have l0 : d0 < 2 := by omega
              have HL3 : Hid (Leaf (nAB p q) 1 ⟨#[]⟩ (S (b3 d2 d1 d0)) (q % 8)) := leaf3 (nAB p q) q d2 d1 d0 hd2 hd1 hd0
              have cv : ∀ o, (convert 46 9 (.slice (some ⟨wr.heap.size + 1, 0, none⟩) 3 3)).run Try.prog ((wr.alloc o).alloc (.cells #[.int .u8 (48 + (d2 : Int)), .int .u8 (48 + (d1 : Int)), .int .u8 (48 + (d0 : Int))] 5)) = .ok (.string (S (b3 d2 d1 d0))) ((wr.alloc o).alloc (.cells #[.int .u8 (48 + (d2 : Int)), .int .u8 (48 + (d1 : Int)), .int .u8 (48 + (d0 : Int))] 5)) := fun o => bits3 _ d2 d1 d0 (by omega) (by omega) (by omega) _ (allocAt (by simp))
              clear hd2 hd1 hd0
              obtain ⟨z, hz⟩ : ∃ z, z = S (b3 d2 d1 d0) := ⟨_, rfl⟩
              rw [← hz] at cv
              have HZ2 : Hid _ := hz
              clear hz
              go_wp2_with (first
                | (go_at_call 19; refine (kNum_c _ _).mono ?_; rintro e w5 ⟨rfl, hb5⟩; have hE : w5.heap[wr.heap.size]? = some (.cells #[.int .i64 2, .string ⟨#[66]⟩, .string ⟨#[]⟩, .bool false, .slice none 0 0, .int .i64 0] 44 (0, 0)) := (hb5.block _ (by simp; omega)).trans (by rw [allocOld (by simp), allocAt rfl]); have HE : Hid _ := hE; obtain ⟨k0, k1, k2, k3, k4, k5⟩ := xAt_of hE; have kf := fun j => Lib.frozen_of_heap hE j; have kl := kLt hE; clear hE))
              go_meet
              have b5 : Below wr.heap.size wr w5 := bel (belA (belA (Below.refl _ _) _) _) hb5
              refine ⟨1, _, _, rfl, hset6 HE.out _ _ _ _ _ _, ?_, below6 b5 (Nat.le_refl _) _ _ _ _ _ _⟩
              rw [HZ2.out]; exact HL3.out
            · have e15 : (op == 15) = false := by
                rw [HOP.out]
                have h5 : j = 0 ∨ j = 1 ∨ j = 3 ∨ j = 4 := by omega
                rcases h5 with rfl | rfl | rfl | rfl <;> rfl
              go_wp2_with fail
              go_meet
              refine ⟨2, _, _, rfl, allocAt rfl, ?_, belA (Below.refl _ _) _⟩
              show Leaf _ _ _ _ _
              rw [show sec q j = q from if_neg hj2]
              exact leafB p q
          case rest =>
            obtain ⟨op1, nm1, vl1, rfl, HE1, HLF, HBD⟩ := hcut
            obtain ⟨k0, k1, k2, k3, k4, k5⟩ := xAt_of HE1.out
            have kl := kLt HE1.out
            have lt3 : w3.heap.size < wc.heap.size := by omega
            have lt4 : w3.heap.size + 1 < wc.heap.size := by omega
            have c3 := (HBD.out.cell (p := ⟨w3.heap.size, j, none⟩) lt0).trans co'
            have c4 := (HBD.out.cell (p := ⟨w3.heap.size + 1, j, none⟩) lt1).trans cn'
            have hB2 := HB.out.trans (HBD.out.mono HB.out.size)
            obtain ⟨wd, hwd⟩ : ∃ wd, wd = wc := ⟨_, rfl⟩
            have hsc : ScAt (w.heap.size + 1) w.heap.size wd := by rw [hwd]; exact ScAt.below HSW.out hB2
            have hmc := MpAt.below HMW.out hB2
            rw [← hwd] at hmc
            obtain ⟨r, rp, rc, hr⟩ : ∃ r rp rc : Int, if fitB nv = true then r = nv ∧ rp = 0 ∧ rc = 0 else r = 0 ∧ rp = 9 ∧ rc = 61 := by
              by_cases h : fitB nv = true
              · exact ⟨nv, 0, 0, by rw [if_pos h]; exact ⟨rfl, rfl, rfl⟩⟩
              · exact ⟨0, 9, 61, by rw [if_neg h]; exact ⟨rfl, rfl, rfl⟩⟩
            have HEV : ∀ W K, Below wd.heap.size wd W → XAt K 0 2 ⟨#[65]⟩ ⟨#[]⟩ false (.slice none 0 0) 0 W → XAt K 6 op1 nm1 vl1 false (.slice none 0 0) 0 W → K < W.heap.size → Calls Try.prog 17 #[.pointer (some ⟨w.heap.size + 1, 0, none⟩), .agg #[.int .i64 op, .string ⟨#[]⟩, .string ⟨#[]⟩, .bool false, .slice (some ⟨K, 0, none⟩) 2 2, .int .i64 9]] W fun e w' => e = .returned (.tuple #[.int .i64 r, .agg #[.int .i64 rp, .int .i64 rc]]) ∧ Below W.heap.size W w' := by
              intro W K hW x0 x1 hK
              refine kEval_bin (hsc.below hW) (hmc.below hW) HF.out op _ _ _ 9 (by rw [HOP.out]; exact opsL_b.1) (by rw [HOP.out]; exact opsL_b.2) x0 x1 hK (leafA p q) HLF.out (by rw [HOP.out]; exact opB_j p q hj5) fp (secF q1 q2) r rp rc ?_
              have e : cmV op p (sec q j) = nv := by rw [HOP.out, HNV.out]; rfl
              rw [e]; exact hr
            have HR : Hid (if fitB nv = true then r = nv ∧ rp = 0 ∧ rc = 0 else r = 0 ∧ rp = 9 ∧ rc = 61) := hr
            subst hwd
            clear hr hsc hmc hB2 HF HSW HMW
            go_upto_region 17 with fail
            go_cut [12, 13] from 56 to 127 (fun s12 s13 wx => ∃ d : Nat, s12 = .int .i64 r ∧ s13 = .pointer (some ⟨d, 0, none⟩) ∧ Hid (wx.heap[d]? = some (.cells #[.int .i64 rp, .int .i64 rc] 48 (0, 0))) ∧ Hid (Below wd.heap.size wd wx))
            case first =>
              go_region_with (first
                | (go_at_call 17; refine (HEV _ _ (by first | exact (belA (Below.refl _ _) _).drew | exact (belA (belA (Below.refl _ _) _) _).drew) (by first | exact xPair.1.drew | exact (xPairN (by simp)).1.drew | exact (xPair.1.below (belA (Below.refl _ _) _) (by simp)).drew) (by first | exact xPair.2.drew | exact (xPairN (by simp)).2.drew | exact (xPair.2.below (belA (Below.refl _ _) _) (by simp)).drew) (by simp <;> omega)).mono ?_; rintro e w4 ⟨rfl, hb4⟩; have f := cellsE (dB hb4); obtain ⟨g0, g1, g2, g3⟩ := f)
                | (go_at_call 17; refine (HEV _ _ (by first | exact (belA (Below.refl _ _) _).drew | exact (belA (belA (Below.refl _ _) _) _).drew) (by first | exact xPair.1.drew | exact (xPairN (by simp)).1.drew | exact (xPair.1.below (belA (Below.refl _ _) _) (by simp)).drew) (by first | exact xPair.2.drew | exact (xPairN (by simp)).2.drew | exact (xPair.2.below (belA (Below.refl _ _) _) (by simp)).drew) (by simp <;> omega)).mono ?_; rintro e w4 ⟨rfl, hb4⟩; have f := cellsE (dA hb4); obtain ⟨g0, g1, g2, g3⟩ := f)
                | (go_at_call 17; refine (HEV _ _ (by first | exact (belA (Below.refl _ _) _).drew | exact (belA (belA (Below.refl _ _) _) _).drew) (by first | exact xPair.1.drew | exact (xPairN (by simp)).1.drew | exact (xPair.1.below (belA (Below.refl _ _) _) (by simp)).drew) (by first | exact xPair.2.drew | exact (xPairN (by simp)).2.drew | exact (xPair.2.below (belA (Below.refl _ _) _) (by simp)).drew) (by simp <;> omega)).mono ?_; rintro e w4 ⟨rfl, hb4⟩))
              all_goals
                have b4 : Below wd.heap.size wd w4 := by first | exact bel (belA (Below.refl _ _) _).drew hb4 | exact bel (belA (belA (Below.refl _ _) _) _).drew hb4
                go_wp2_with fail
                go_meet
                first
                  | exact ⟨_, rfl, rfl, allocAt rfl, belA b4 _⟩
                  | exact ⟨_, rfl, rfl, hset2 (dB hb4) _ _, (b4.setCell (by show wd.heap.size ≤ wd.heap.size + 1; omega) _).setCell (by show wd.heap.size ≤ wd.heap.size + 1; omega) _⟩
                  | exact ⟨_, rfl, rfl, hset2 (dA hb4) _ _, (b4.setCell (Nat.le_refl _) _).setCell (Nat.le_refl _) _⟩
            case rest =>
              obtain ⟨d, rfl, rfl, HD, HBX⟩ := hcut
              have dc0 : wc.cell? ⟨d, 0, none⟩ = some (.int .i64 rp) := by rw [Lib.cell_of_heap HD.out]; rfl
              have dc1 : wc.cell? ⟨d, 1, none⟩ = some (.int .i64 rc) := by rw [Lib.cell_of_heap HD.out]; rfl
              have cn3 := (HBX.out.cell (p := ⟨w3.heap.size + 1, j, none⟩) lt4).trans c4
              have hBf : Below wr.heap.size wr wc := bel HBD.out HBX.out
              have HBf : Hid _ := hBf
              clear hBf HEV k0 k1 k2 k3 k4 k5 c3 c4 co' cn'
              by_cases hfit : fitB nv = true
              · have hr := HR.out
                rw [if_pos hfit] at hr
                obtain ⟨rfl, rfl, rfl⟩ := hr
                obtain ⟨v1, v2⟩ : -2147483647 ≤ r ∧ r ≤ 2147483647 := by simpa [fitB] using hfit
                clear hfit HR
                go_wp2_with fail
                go_roundg (5 - (j + 1))
                case measure => omega
                case rel => exact ⟨j + 1, by omega, rfl, by rw [Int.natCast_add]; rfl, HB.out.trans (Below.mono HBf.out HB.out.size)⟩
              · have hr := HR.out
                rw [if_neg hfit] at hr
                obtain ⟨rfl, rfl, rfl⟩ := hr
                have hv : nv < -2147483647 ∨ 2147483647 < nv := by simp [fitB] at hfit; omega
                clear hfit HR
                have hv2 : 2147483647 < nv ∨ (nv ≤ 2147483647 ∧ nv < -2147483647) := by omega
                clear hv
                rcases hv2 with hv | ⟨hv1, hv⟩
                all_goals
                  go_wp2_with fail
                  go_roundg (5 - (j + 1))
                  case measure => omega
                  case rel => exact ⟨j + 1, by omega, rfl, by rw [Int.natCast_add]; rfl, HB.out.trans (Below.mono HBf.out HB.out.size)⟩
end Go.Proofs.Ytbpjgfemopakcaa
