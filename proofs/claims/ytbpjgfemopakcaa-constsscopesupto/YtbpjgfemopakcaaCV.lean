/- ConstsScopes. -/
import Derived.Test.YtbpjgfemopakcaaCW
namespace Go.Proofs.Ytbpjgfemopakcaa
open Go.RowKit Lg Go.Maps
set_option linter.unusedVariables false
set_option linter.unusedSimpArgs false

set_option maxRecDepth 100000 in
set_option maxHeartbeats 8000000 in
theorem ConstsScopes_c (v0 v1 v2 : Value) (l here there : List (ByteArray × Int)) (w : World) (hv0 : LsAt v0 l w) (hv1 : LsAt v1 here w) (hv2 : LsAt v2 there w) (hl : l.length + here.length + there.length < 400000) (hs0 : ∀ p ∈ l, p.1.size ≤ maxLen) (hs1 : ∀ p ∈ here, p.1.size ≤ maxLen) (hs2 : ∀ p ∈ there, p.1.size ≤ maxLen) :
    Calls Try.prog 3 #[v0, v1, v2] w fun e w' => e = .returned (.bool true) ∧ Below w.heap.size w w' := by
  have HA := awake6
  have HM := fun W (hb : Below w.heap.size w W) => made_c v0 l W (hv0.below hb) (by omega) hs0
  obtain ⟨av, cv, rfl⟩ := hv0.slice_
  obtain ⟨bv, dv, rfl⟩ := hv1.slice_
  obtain ⟨ev, fv, rfl⟩ := hv2.slice_
  have HV0 : Hid (LsAt (.slice av l.length cv) l w) := hv0
  have HV1 : Hid (LsAt (.slice bv here.length dv) here w) := hv1
  have HV2 : Hid (LsAt (.slice ev there.length fv) there w) := hv2
  have HS0 : Hid (∀ p ∈ l, p.1.size ≤ maxLen) := hs0
  have HS1 : Hid (∀ p ∈ here, p.1.size ≤ maxLen) := hs1
  have HS2 : Hid (∀ p ∈ there, p.1.size ≤ maxLen) := hs2
  clear hv0 hv1 hv2 hs0 hs1 hs2
  obtain ⟨nl, hnl⟩ : ∃ n, n = l.length := ⟨_, rfl⟩
  obtain ⟨nh, hnh⟩ : ∃ n, n = here.length := ⟨_, rfl⟩
  obtain ⟨nt, hnt⟩ : ∃ n, n = there.length := ⟨_, rfl⟩
  have HNL : Hid (nl = l.length) := hnl
  have HNH : Hid (nh = here.length) := hnh
  have HNT : Hid (nt = there.length) := hnt
  rw [← hnl] at HM
  rw [← hnl, ← hnh, ← hnt] at hl ⊢
  clear hnl hnh hnt
  go_enter Try.func3, Try.ntmps3
  go_wp2_with (first
    | (go_at_call 8; refine (HM _ (Below.refl _ _)).mono ?_; rintro e w1 ⟨⟨sb, mb, ao, n1, c1, bo, n2, c2, rfl, hp1, hne1, hr1, hm1, hsb1⟩, hb1⟩; have hz1 := hb1.size; have HP1 : Hid (PrAt sb mb (fil l) w1) := hp1; have HR1 : Hid (RfAt w.heap.size (.slice ao n1 c1) (.slice bo n2 c2) (fil l) w1) := hr1)
    | (go_at_call 9; have hp2 := PrAt.below HP1.out (belA (Below.refl w1.heap.size w1) (.cells #[.slice ao n1 c1, .slice bo n2 c2] 27)); obtain ⟨D2, cnt2, s2, m2, k2, f2⟩ := hp2; refine (kWithin_c s2 m2).mono ?_; rintro e w3 ⟨rfl, hs3, hm3, hb3⟩; have hT3 : w3.heap[w1.heap.size]? = some (.cells #[.slice ao n1 c1, .slice bo n2 c2] 27 (0, 0)) := (hb3.block w1.heap.size (by simp)).trans (allocAt rfl); have cc := cellsS hT3; obtain ⟨x0, x1, xf, xl⟩ := cc))
  have eW : (w1.alloc (.cells #[.slice ao n1 c1, .slice bo n2 c2] 27)).heap.size = w1.heap.size + 1 := by simp
  rw [eW] at hs3 hm3 hb3
  have lsb : sb < w1.heap.size := by obtain ⟨_, _, h, _⟩ := HP1.out; exact kLt h
  have lmb : mb < w1.heap.size := by obtain ⟨_, _, _, h, _⟩ := HP1.out; exact World.ownsMap.lt h
  have lst : w1.heap.size + 1 + 1 < w3.heap.size := kLt hs3
  have ds : Ds w.heap.size sb mb w1.heap.size (w1.heap.size + 1 + 1) (w1.heap.size + 1) w3.heap.size := ⟨hne1, by omega, by omega, by omega, by omega, by omega, by omega, by omega, by omega, by omega, by omega, by omega, by omega, by omega, by omega, by omega, by omega, by omega, by omega, by omega⟩
  have b13 : Below w1.heap.size w1 w3 := (belA (Below.refl w1.heap.size w1) _).trans (hb3.mono (by omega))
  have HS3 : Hid (SS w sb mb w1.heap.size (w1.heap.size + 1 + 1) (w1.heap.size + 1) w3.heap.size (fil l) (fil l) (fil l) (fil l) (w3.alloc (.cells #[.slice ao n1 c1, .slice bo n2 c2] 27))) := by
    have b3 : Below w3.heap.size w3 (w3.alloc (.cells #[.slice ao n1 c1, .slice bo n2 c2] 27)) := belA (Below.refl _ _) _
    have hR3 := RfAt.below (RfAt.below HR1.out b13) b3
    exact ⟨bel (bel hb1 b13) b3, PrAt.below (PrAt.below HP1.out b13) b3, ⟨_, _, _, _, _, _, (b3.block _ (kLt hT3)).trans hT3, hR3⟩, PrAt.below ⟨D2, cnt2, hs3, hm3, k2, f2⟩ b3, ⟨_, _, _, _, _, _, allocAt rfl, hR3⟩⟩
  clear hs3 hm3 hb3 hT3 x0 x1 xf s2 m2 k2 f2 hp1 hr1 hb1 HM eW b13 HP1 HR1
  obtain ⟨T, hT⟩ : ∃ T, T = w1.heap.size := ⟨_, rfl⟩
  obtain ⟨U, hU⟩ : ∃ U, U = w3.heap.size := ⟨_, rfl⟩
  rw [← hT, ← hU] at HS3 ds ⊢
  have HTU : Hid (T = w1.heap.size ∧ U = w3.heap.size) := ⟨hT, hU⟩
  clear hT hU xl lst lsb lmb hz1
  go_loopg [12] nh (fun g s12 wr => ∃ j : Nat, j ≤ nh ∧ g = nh - j ∧ s12 = .int .i64 j ∧ Hid (SS w sb mb T (T + 1 + 1) (T + 1) U (fil l ++ fil (here.take j)) (fil l ++ fil (here.take j)) (fil l) (fil l) wr))
  case atStart => exact ⟨0, Nat.zero_le _, rfl, rfl, by show SS _ _ _ _ _ _ _ _ _ _ _ _; simpa [fil] using HS3.out⟩
  case round =>
    obtain ⟨j, hj, rfl, rfl, HSS⟩ := hrel
    by_cases hjn : j = nh
    · subst hjn
      have HS4 : Hid (SS w (T + 1 + 1) (T + 1) U sb mb T (fil l) (fil l) (fil l ++ fil here) (fil l ++ fil here) wr) := by
        have h := SS.swap HSS.out
        rw [HNH.out, List.take_length] at h
        exact h
      have ds2 := ds.swap
      clear HSS HS3
      go_wp2_with fail
      go_loopg [13] nt (fun g s13 wr => ∃ j : Nat, j ≤ nt ∧ g = nt - j ∧ s13 = .int .i64 j ∧ Hid (SS w (T + 1 + 1) (T + 1) U sb mb T (fil l ++ fil (there.take j)) (fil l ++ fil (there.take j)) (fil l ++ fil here) (fil l ++ fil here) wr))
      case atStart => exact ⟨0, Nat.zero_le _, rfl, rfl, by show SS _ _ _ _ _ _ _ _ _ _ _ _; simpa [fil] using HS4.out⟩
      case round =>
        clear HS4 ds
        have ds := ds2
        clear ds2
        obtain ⟨i, hi, rfl, rfl, HSS⟩ := hrel
        by_cases hin : i = nt
        · subst hin
          have HS5 : Hid (SS w sb mb T (T + 1 + 1) (T + 1) U (fil l ++ fil here) (fil l ++ fil here) (fil l ++ fil there) (fil l ++ fil there) wr) := by
            have h := SS.swap HSS.out
            rw [HNT.out, List.take_length] at h
            exact h
          have L0 : Hid (LsAt (.slice av nl cv) l w) := by show LsAt _ _ _; rw [HNL.out]; exact HV0.out
          have L1 : Hid (LsAt (.slice bv j dv) here w) := by show LsAt _ _ _; rw [HNH.out]; exact HV1.out
          have L2 : Hid (LsAt (.slice ev i fv) there w) := by show LsAt _ _ _; rw [HNT.out]; exact HV2.out
          have A0 : Hid (AllAt w.heap.size [] (.slice none 0 0) wr) := World.ownsRow_nil _ _ _ _
          obtain ⟨z, hz⟩ : ∃ z : ByteArray, (⟨#[110, 111, 110, 101, 32, 111, 102, 32, 116, 104, 101, 115, 101]⟩ : ByteArray) = z := ⟨_, rfl⟩
          have hzs : z.size ≤ maxLen := by rw [← hz]; decide
          clear HSS
          go_wp2_with (first
            | (at_builtin; have hx := A3; refine wpl_append_ls rfl _ _ rfl w.heap.size (l ++ here ++ there) [(z, 0)] _ (.slice (some ⟨W3.heap.size, 0, none⟩) 1 1) rfl (World.ownsRow.alloc A3.out _) rfl (lsOne z 0) (by rw [List.length_append, List.length_append, ← HNL.out, ← HNH.out, ← HNT.out]; show nl + j + i + 1 < 500000; omega) (by have := SS3.out.bel.size; simp; omega) ?_; intro ao4 m4 cap4 W4 hm4 hA4 hg4; have SS4 : Hid (SS w sb mb T (T + 1 + 1) (T + 1) U (fil l ++ fil here) (fil l ++ fil here) (fil l ++ fil there) (fil l ++ fil there) W4) := SS.row (SS.below SS3.out (belA (Below.refl _ _) _)) (World.ownsRow.alloc A3.out _) hg4; have A4 : Hid (AllAt w.heap.size (l ++ here ++ there ++ [(z, 0)]) (.slice ao4 m4 cap4) W4) := hA4; clear hA4 hg4)
            | (at_builtin; have hx := A2; refine wpl_append_ls rfl _ _ rfl w.heap.size (l ++ here) there _ (.slice ev i fv) rfl A2.out rfl (LsAt.below L2.out SS2.out.bel) (by rw [List.length_append, ← HNL.out, ← HNH.out, ← HNT.out]; omega) SS2.out.bel.size ?_; intro ao3 m3 cap3 W3 hm3 hA3 hg3; have SS3 : Hid (SS w sb mb T (T + 1 + 1) (T + 1) U (fil l ++ fil here) (fil l ++ fil here) (fil l ++ fil there) (fil l ++ fil there) W3) := SS.row SS2.out A2.out hg3; have A3 : Hid (AllAt w.heap.size (l ++ here ++ there) (.slice ao3 m3 cap3) W3) := hA3; clear hA3 hg3)
            | (at_builtin; have hx := A1; refine wpl_append_ls rfl _ _ rfl w.heap.size l here _ (.slice bv j dv) rfl A1.out rfl (LsAt.below L1.out SS1.out.bel) (by rw [← HNL.out, ← HNH.out]; omega) SS1.out.bel.size ?_; intro ao2 m2 cap2 W2 hm2 hA2 hg2; have SS2 : Hid (SS w sb mb T (T + 1 + 1) (T + 1) U (fil l ++ fil here) (fil l ++ fil here) (fil l ++ fil there) (fil l ++ fil there) W2) := SS.row SS1.out A1.out hg2; have A2 : Hid (AllAt w.heap.size (l ++ here) (.slice ao2 m2 cap2) W2) := hA2; clear hA2 hg2)
            | (at_builtin; refine wpl_append_ls rfl _ _ rfl w.heap.size [] l (.slice none 0 0) (.slice av nl cv) rfl A0.out rfl (LsAt.below L0.out HS5.out.bel) (by rw [← HNL.out]; simp; omega) HS5.out.bel.size ?_; intro ao1 m1 cap1 W1 hm1 hA1 hg1; rw [List.nil_append] at hA1 hm1; have SS1 : Hid (SS w sb mb T (T + 1 + 1) (T + 1) U (fil l ++ fil here) (fil l ++ fil here) (fil l ++ fil there) (fil l ++ fil there) W1) := SS.row HS5.out A0.out hg1; have A1 : Hid (AllAt w.heap.size l (.slice ao1 m1 cap1) W1) := hA1; clear hA1 hg1))
          obtain ⟨ga, hga⟩ : ∃ ga, ao4 = some ⟨ga, 0, none⟩ := by
            rcases A4.out.2 with ⟨h0, _⟩ | ⟨g0, c0, u0, h0, _⟩
            · injection h0 with _ h1 _
              rw [hm4.out] at h1
              simp at h1
            · injection h0 with h1 _ _
              exact ⟨g0, h1⟩
          subst hga
          have HAC : Hid (∀ q (hq : q < (l ++ here ++ there ++ [(z, 0)]).length), W4.cell? ⟨ga, q * 2, none⟩ = some (.string (l ++ here ++ there ++ [(z, 0)])[q].1)) := by
            intro q hq
            have e : ((⟨ga, 0, none⟩ : Addr).add (q * 2)) = ⟨ga, q * 2, none⟩ := by simp [Addr.add]; intro h; exact h.symm
            rw [← e]
            exact World.ownsRow.cells A4.out rfl _ _ (nc_at _ q hq).1
          have lga : ga < W4.heap.size := (World.ownsRow.lt A4.out ga rfl).2
          have HSZ : Hid (∀ p ∈ (l ++ here ++ there ++ [(z, 0)]), p.1.size ≤ maxLen) := by
            intro p hp
            simp only [List.mem_append, List.mem_singleton] at hp
            rcases hp with ((hp | hp) | hp) | rfl
            · exact HS0.out p hp
            · exact HS1.out p hp
            · exact HS2.out p hp
            · exact hzs
          have HM4 : Hid (m4 = (l ++ here ++ there ++ [(z, 0)]).length) := hm4
          have hm4l : m4 < 500000 := by rw [HM4.out]; simp only [List.length_append]; rw [← HNL.out, ← HNH.out, ← HNT.out]; show nl + j + i + 1 < 500000; omega
          have hQ1l : (fil l ++ fil here).length < 900000 := by
            rw [List.length_append]; have e1 := fil_len l; have e2 := fil_len here; have e3 := HNL.out; have e4 := HNH.out; omega
          have hQ2l : (fil l ++ fil there).length < 900000 := by
            rw [List.length_append]; have e1 := fil_len l; have e2 := fil_len there; have e3 := HNL.out; have e4 := HNT.out; omega
          clear A0 A1 A2 A3 SS1 SS2 SS3 HS5 hm1 hm2 hm3 hm4 L0 L1 L2 hz
          go_loopg [15] m4 (fun g s15 wr => ∃ q : Nat, q ≤ m4 ∧ g = m4 - q ∧ s15 = .int .i64 q ∧ Hid (Below W4.heap.size W4 wr))
          case atStart => exact ⟨0, Nat.zero_le _, rfl, rfl, Below.refl _ _⟩
          case round =>
            obtain ⟨q, hq, rfl, rfl, HB⟩ := hrel
            have HSR : Hid (SS w sb mb T (T + 1 + 1) (T + 1) U (fil l ++ fil here) (fil l ++ fil here) (fil l ++ fil there) (fil l ++ fil there) wr) := SS.below SS4.out HB.out
            by_cases hqm : q = m4
            · subst hqm
              go_wp2_with (first | (go_at_call 14; refine (HA _).mono ?_; rintro e w5 ⟨rfl, hb5⟩))
              go_ret
              exact ⟨rfl, HSR.out.bel.trans (hb5.mono HSR.out.bel.size)⟩
            · have hq2 : q < (l ++ here ++ there ++ [(z, 0)]).length := by have := HM4.out; omega
              have hqI : (q : Int) < (m4 : Int) := by omega
              have xc := (HB.out.cell (p := ⟨ga, q * 2, none⟩) lga).trans (HAC.out q hq2)
              obtain ⟨x, hx⟩ : ∃ x, x = (l ++ here ++ there ++ [(z, 0)])[q].1 := ⟨_, rfl⟩
              rw [← hx] at xc
              have hxs : x.size ≤ maxLen := by rw [hx]; exact HSZ.out _ (List.getElem_mem hq2)
              clear hx
              have lgr : ga < wr.heap.size := Nat.lt_of_lt_of_le lga HB.out.size
              obtain ⟨g1, hg1⟩ : ∃ g1, g1 = getA (lkp (fil l ++ fil here) (L x)) := ⟨_, rfl⟩
              obtain ⟨b1, hb1⟩ : ∃ b1, b1 = (lkp (fil l ++ fil here) (L x)).isSome := ⟨_, rfl⟩
              obtain ⟨g2, hg2⟩ : ∃ g2, g2 = getA (lkp (fil l ++ fil there) (L x)) := ⟨_, rfl⟩
              obtain ⟨b2, hb2⟩ : ∃ b2, b2 = (lkp (fil l ++ fil there) (L x)).isSome := ⟨_, rfl⟩
              obtain ⟨qa, q1, q2, qb, q3, q4, hT, hTf⟩ := HSR.out.r1
              obtain ⟨ra, r1, r2, rb, r3, r4, hU, hUf⟩ := HSR.out.r2
              obtain ⟨k0, k1, kf, kl⟩ := cellsS hT
              obtain ⟨j0, j1, jf, jl⟩ := cellsS hU
              have HGa : ∀ W, Below wr.heap.size wr W → Calls Try.prog 12 #[.pointer (some ⟨sb, 0, none⟩), .string x] W fun e w' => e = .returned (.tuple #[.int .i64 g1, .bool b1]) ∧ w' = W := fun W hW => by
                obtain ⟨D, cnt, a1, a2, a3, a4⟩ := PrAt.below HSR.out.p1 hW
                rw [hg1, hb1]; exact kGet_c a1 a2 a4 x hxs
              have HGc : ∀ W, Below wr.heap.size wr W → Calls Try.prog 12 #[.pointer (some ⟨T + 1 + 1, 0, none⟩), .string x] W fun e w' => e = .returned (.tuple #[.int .i64 g2, .bool b2]) ∧ w' = W := fun W hW => by
                obtain ⟨D, cnt, a1, a2, a3, a4⟩ := PrAt.below HSR.out.p2 hW
                rw [hg2, hb2]; exact kGet_c a1 a2 a4 x hxs
              have HGb : ∀ W, Below wr.heap.size wr W → Calls Try.prog 13 #[.agg #[.slice qa q1 q2, .slice qb q3 q4], .string x] W fun e w' => e = .returned (.tuple #[.int .i64 g1, .bool b1]) ∧ Below W.heap.size W w' := fun W hW => by
                rw [hg1, hb1]; exact rGet_c (hTf.below hW) (by omega) x
              have HGd : ∀ W, Below wr.heap.size wr W → Calls Try.prog 13 #[.agg #[.slice ra r1 r2, .slice rb r3 r4], .string x] W fun e w' => e = .returned (.tuple #[.int .i64 g2, .bool b2]) ∧ Below W.heap.size W w' := fun W hW => by
                rw [hg2, hb2]; exact rGet_c (hUf.below hW) (by omega) x
              clear hT hTf hU hUf
              go_upto_region 27 with (first
                | (go_at_call 12; refine (HGa _ (Below.refl _ _)).mono ?_; rintro e w' ⟨rfl, hw⟩; have hw2 := hw.symm; subst hw2))
              go_region_held (fun w' => w'.cell? ⟨T, 0, none⟩ = some (.slice qa q1 q2) ∧ w'.cell? ⟨T, 1, none⟩ = some (.slice qb q3 q4) ∧ w'.cell? ⟨ga, q * 2, none⟩ = some (.string x)) (go_keep) (first
                | (go_at_call 13; refine (HGb _ (Below.refl _ _).drew).mono ?_; rintro e w5 ⟨rfl, hb5⟩; have b5 : Below wr.heap.size wr w5 := bel (Below.refl _ _).drew hb5; have t0 := (b5.cell (p := ⟨T, 0, none⟩) kl).trans k0; have t1 := (b5.cell (p := ⟨T, 1, none⟩) kl).trans k1; have t2 := (b5.cell (p := ⟨ga, q * 2, none⟩) lgr).trans xc; have u0 := (b5.cell (p := ⟨U, 0, none⟩) jl).trans j0; have u1 := (b5.cell (p := ⟨U, 1, none⟩) jl).trans j1))
              all_goals
                go_upto_region 29 with (first
                  | (go_at_call 12; refine (HGc _ b5).mono ?_; rintro e w' ⟨rfl, hw⟩; have hw2 := hw.symm; subst hw2))
                go_region_held (fun w' => w'.cell? ⟨U, 0, none⟩ = some (.slice ra r1 r2) ∧ w'.cell? ⟨U, 1, none⟩ = some (.slice rb r3 r4) ∧ w'.cell? ⟨ga, q * 2, none⟩ = some (.string x)) (go_keep) (first
                  | (go_at_call 13; refine (HGd _ b5.drew).mono ?_; rintro e w6 ⟨rfl, hb6⟩; have b6 : Below wr.heap.size wr w6 := bel b5.drew hb6; have t3 := (b6.cell (p := ⟨U, 0, none⟩) jl).trans j0; have t4 := (b6.cell (p := ⟨U, 1, none⟩) jl).trans j1; have t5 := (b6.cell (p := ⟨ga, q * 2, none⟩) lgr).trans xc))
                all_goals
                  go_wp2_with fail
                  go_roundg (m4 - (q + 1))
                  case measure => omega
                  case rel => exact ⟨q + 1, by omega, rfl, by rw [Int.natCast_add]; rfl, HB.out.trans (b6.mono HB.out.size)⟩
        · have hj2 : i < there.length := by have := HNT.out; omega
          have hjI : (i : Int) < (nt : Int) := by omega
          obtain ⟨g, o, cap, hva, hg, hcap, hcells⟩ : ∃ g o cap, Value.slice ev there.length fv = .slice (some ⟨g, o, none⟩) there.length cap ∧ g < w.heap.size ∧ there.length ≤ cap ∧ ∀ q (hq' : q < there.length), w.cell? ⟨g, o + q * 2, none⟩ = some (.string there[q].1) ∧ w.cell? ⟨g, o + q * 2 + 1, none⟩ = some (.int .i64 there[q].2) := by
            rcases HV2.out with ⟨h0, _⟩ | h
            · rw [h0] at hj2; simp at hj2
            · exact h
          injection hva with hva _ hvc
          subst hva
          obtain ⟨x0, x1⟩ := hcells i hj2
          obtain ⟨x, hx⟩ : ∃ x, x = there[i].1 := ⟨_, rfl⟩
          obtain ⟨k, hk⟩ : ∃ k, k = there[i].2 := ⟨_, rfl⟩
          rw [← hx] at x0
          rw [← hk] at x1
          have hbw := HSS.out.bel
          have y0 := (hbw.cell (p := ⟨g, o + i * 2, none⟩) hg).trans x0
          have y1 := (hbw.cell (p := ⟨g, o + i * 2 + 1, none⟩) hg).trans x1
          have hxs : x.size ≤ maxLen := by rw [hx]; exact HS2.out _ (List.getElem_mem hj2)
          have HXK : Hid (fil l ++ fil (there.take (i + 1)) = (fil l ++ fil (there.take i)) ++ (if fitB k = true then [(x, k)] else [])) := by show _ = _; rw [fil_take hj2, List.append_assoc, hk, hx]
          have hwl := hbw.size
          have hgl : g < wr.heap.size := by omega
          have hql : (fil l ++ fil (there.take i)).length < 900000 := by
            rw [List.length_append]
            have e1 := fil_len l
            have e2 := fil_len (there.take i)
            have e3 : (there.take i).length ≤ there.length := by rw [List.length_take]; omega
            have e4 := HNL.out
            have e5 := HNT.out
            omega
          obtain ⟨qa, q1, q2, qb, q3, q4, hq, hqf⟩ := HSS.out.r1
          obtain ⟨k0, k1, kf, kl⟩ := cellsS hq
          have HQ : Hid (wr.heap[U]? = some (.cells #[.slice qa q1 q2, .slice qb q3 q4] 27 (0, 0))) := hq
          have HQF : Hid (RfAt w.heap.size (.slice qa q1 q2) (.slice qb q3 q4) (fil l ++ fil (there.take i)) wr) := hqf
          have nT : g ≠ U := by have := ds.c2; omega
          have nT' : U ≠ g := fun e => nT e.symm
          have nm : g ≠ (T + 1) := by have := ds.c1; omega
          have HSE : ∀ W, Below wr.heap.size wr W → Calls Try.prog 10 #[.agg #[.slice qa q1 q2, .slice qb q3 q4], .string x, .int .i64 k] W fun e w' => (∃ ao' n1' c1' bo' n2' c2' ee, e = .returned (.tuple #[.agg #[.slice ao' n1' c1', .slice bo' n2' c2'], .int .i64 ee]) ∧ SetGood w.heap.size (.slice qa q1 q2) (.slice qb q3 q4) (fil l ++ fil (there.take i)) x k (.slice ao' n1' c1') (.slice bo' n2' c2') ee w') ∧ Below W.heap.size W w' := fun W hW => rSet_c (RfAt.below HQF.out hW) (by have := hW.size; omega) (by omega) x k
          clear x0 x1 hx hk hcells hvc hcap hq hqf hbw
          go_upto_region 16 with fail
          go_cut [] from 70 to 102 (fun wx => Hid (SS w (T + 1 + 1) (T + 1) U sb mb T (fil l ++ fil (there.take i)) (fil l ++ fil (there.take (i + 1))) (fil l ++ fil here) (fil l ++ fil here) wx))
          case first =>
            go_region_with (first
              | (go_at_call 10; refine (HSE _ (Below.refl _ _).drew).mono ?_; rintro e w4 ⟨⟨ao', n1', c1', bo', n2', c2', ee, rfl, hgood⟩, hb4⟩; have b4 : Below wr.heap.size wr w4 := bel (Below.refl _ _).drew hb4; have t0 := (b4.cell (p := ⟨U, 0, none⟩) kl).trans k0; have t1 := (b4.cell (p := ⟨U, 1, none⟩) kl).trans k1; have tf := fun i => (b4.frozen (p := ⟨U, i, none⟩) kl).trans (kf i); have lT4 : U < w4.heap.size := Nat.lt_of_lt_of_le kl b4.size))
            all_goals
              go_wp2_with fail
              go_meet
              show SS _ _ _ _ _ _ _ _ _ _ _ _
              rw [HXK.out]
              exact SS.ref HSS.out ds HQ.out HQF.out b4 hgood ⟨_, _, _, _, _, _, rfl, rfl⟩
          case rest =>
            have hbw := hcut.out.bel
            have gw : g < w.heap.size := hg
            have hwc := hbw.size
            have lgc : g < wc.heap.size := by omega
            have hx0 : w.cell? ⟨g, o + i * 2, none⟩ = some (.string x) := (HSS.out.bel.cell (p := ⟨g, o + i * 2, none⟩) hg).symm.trans y0
            have hx1 : w.cell? ⟨g, o + i * 2 + 1, none⟩ = some (.int .i64 k) := (HSS.out.bel.cell (p := ⟨g, o + i * 2 + 1, none⟩) hg).symm.trans y1
            have z0 := (hbw.cell (p := ⟨g, o + i * 2, none⟩) hg).trans hx0
            have z1 := (hbw.cell (p := ⟨g, o + i * 2 + 1, none⟩) hg).trans hx1
            obtain ⟨ee, hee⟩ : ∃ ee : Int, ee = (if fitB k = true then 0 else 1) := ⟨_, rfl⟩
            have HSP := pSet_c (w := wc.drew) hcut.out.p1 ds.a1 (by omega) x hxs k
            rw [← hee] at HSP
            clear hee HSE y0 y1 k0 k1 kf kl hx0 hx1 hbw
            go_wp2_with fail
            go_region_held (fun w' => w'.cell? ⟨g, o + i * 2, none⟩ = some (.string x) ∧ w'.cell? ⟨g, o + i * 2 + 1, none⟩ = some (.int .i64 k)) (go_keep) (first
              | (go_at_call 11; refine HSP.mono ?_; rintro e w5 ⟨rfl, hp5, ⟨cnt, D, hm5⟩, hg5⟩; have t2 := (grown_cell hg5 ⟨g, o + i * 2, none⟩ lgc nm).trans z0; have t3 := (grown_cell hg5 ⟨g, o + i * 2 + 1, none⟩ lgc nm).trans z1))
            all_goals
              rw [← HXK.out] at hp5
              have HS5 : Hid (SS w (T + 1 + 1) (T + 1) U sb mb T (fil l ++ fil (there.take (i + 1))) (fil l ++ fil (there.take (i + 1))) (fil l ++ fil here) (fil l ++ fil here) w5) := SS.prog (W := wc.drew) (SS.below hcut.out ⟨rfl, rfl, rfl, Nat.le_refl _, fun _ _ => rfl⟩) ds hp5 hm5 hg5
              clear hp5 hm5 hg5
              go_wp2_with fail
              go_roundg (nt - (i + 1))
              case measure => omega
              case rel => exact ⟨i + 1, by omega, rfl, by rw [Int.natCast_add]; rfl, HS5.out⟩
    · have hj2 : j < here.length := by have := HNH.out; omega
      have hjI : (j : Int) < (nh : Int) := by omega
      obtain ⟨g, o, cap, hva, hg, hcap, hcells⟩ : ∃ g o cap, Value.slice bv here.length dv = .slice (some ⟨g, o, none⟩) here.length cap ∧ g < w.heap.size ∧ here.length ≤ cap ∧ ∀ i (hi : i < here.length), w.cell? ⟨g, o + i * 2, none⟩ = some (.string here[i].1) ∧ w.cell? ⟨g, o + i * 2 + 1, none⟩ = some (.int .i64 here[i].2) := by
        rcases HV1.out with ⟨h0, _⟩ | h
        · rw [h0] at hj2; simp at hj2
        · exact h
      injection hva with hva _ hvc
      subst hva
      obtain ⟨x0, x1⟩ := hcells j hj2
      obtain ⟨x, hx⟩ : ∃ x, x = here[j].1 := ⟨_, rfl⟩
      obtain ⟨k, hk⟩ : ∃ k, k = here[j].2 := ⟨_, rfl⟩
      rw [← hx] at x0
      rw [← hk] at x1
      have hbw := HSS.out.bel
      have y0 := (hbw.cell (p := ⟨g, o + j * 2, none⟩) hg).trans x0
      have y1 := (hbw.cell (p := ⟨g, o + j * 2 + 1, none⟩) hg).trans x1
      have hxs : x.size ≤ maxLen := by rw [hx]; exact HS1.out _ (List.getElem_mem hj2)
      have HXK : Hid (fil l ++ fil (here.take (j + 1)) = (fil l ++ fil (here.take j)) ++ (if fitB k = true then [(x, k)] else [])) := by show _ = _; rw [fil_take hj2, List.append_assoc, hk, hx]
      have hwl := hbw.size
      have hgl : g < wr.heap.size := by omega
      have hql : (fil l ++ fil (here.take j)).length < 900000 := by
        rw [List.length_append]
        have e1 := fil_len l
        have e2 := fil_len (here.take j)
        have e3 : (here.take j).length ≤ here.length := by rw [List.length_take]; omega
        have e4 := HNL.out
        have e5 := HNH.out
        omega
      obtain ⟨qa, q1, q2, qb, q3, q4, hq, hqf⟩ := HSS.out.r1
      obtain ⟨k0, k1, kf, kl⟩ := cellsS hq
      have HQ : Hid (wr.heap[T]? = some (.cells #[.slice qa q1 q2, .slice qb q3 q4] 27 (0, 0))) := hq
      have HQF : Hid (RfAt w.heap.size (.slice qa q1 q2) (.slice qb q3 q4) (fil l ++ fil (here.take j)) wr) := hqf
      have nT : g ≠ T := by have := ds.c2; omega
      have nT' : T ≠ g := fun e => nT e.symm
      have nm : g ≠ mb := by have := ds.c1; omega
      have HSE : ∀ W, Below wr.heap.size wr W → Calls Try.prog 10 #[.agg #[.slice qa q1 q2, .slice qb q3 q4], .string x, .int .i64 k] W fun e w' => (∃ ao' n1' c1' bo' n2' c2' ee, e = .returned (.tuple #[.agg #[.slice ao' n1' c1', .slice bo' n2' c2'], .int .i64 ee]) ∧ SetGood w.heap.size (.slice qa q1 q2) (.slice qb q3 q4) (fil l ++ fil (here.take j)) x k (.slice ao' n1' c1') (.slice bo' n2' c2') ee w') ∧ Below W.heap.size W w' := fun W hW => rSet_c (RfAt.below HQF.out hW) (by have := hW.size; omega) (by omega) x k
      clear x0 x1 hx hk hcells hvc hcap hq hqf hbw
      go_upto_region 11 with fail
      go_cut [] from 37 to 69 (fun wx => Hid (SS w sb mb T (T + 1 + 1) (T + 1) U (fil l ++ fil (here.take j)) (fil l ++ fil (here.take (j + 1))) (fil l) (fil l) wx))
      case first =>
        go_region_with (first
          | (go_at_call 10; refine (HSE _ (Below.refl _ _).drew).mono ?_; rintro e w4 ⟨⟨ao', n1', c1', bo', n2', c2', ee, rfl, hgood⟩, hb4⟩; have b4 : Below wr.heap.size wr w4 := bel (Below.refl _ _).drew hb4; have t0 := (b4.cell (p := ⟨T, 0, none⟩) kl).trans k0; have t1 := (b4.cell (p := ⟨T, 1, none⟩) kl).trans k1; have tf := fun j => (b4.frozen (p := ⟨T, j, none⟩) kl).trans (kf j); have lT4 : T < w4.heap.size := Nat.lt_of_lt_of_le kl b4.size))
        all_goals
          go_wp2_with fail
          go_meet
          show SS _ _ _ _ _ _ _ _ _ _ _ _
          rw [HXK.out]
          exact SS.ref HSS.out ds HQ.out HQF.out b4 hgood ⟨_, _, _, _, _, _, rfl, rfl⟩
      case rest =>
        have hbw := hcut.out.bel
        have gw : g < w.heap.size := hg
        have hwc := hbw.size
        have lgc : g < wc.heap.size := by omega
        have hx0 : w.cell? ⟨g, o + j * 2, none⟩ = some (.string x) := (HSS.out.bel.cell (p := ⟨g, o + j * 2, none⟩) hg).symm.trans y0
        have hx1 : w.cell? ⟨g, o + j * 2 + 1, none⟩ = some (.int .i64 k) := (HSS.out.bel.cell (p := ⟨g, o + j * 2 + 1, none⟩) hg).symm.trans y1
        have z0 := (hbw.cell (p := ⟨g, o + j * 2, none⟩) hg).trans hx0
        have z1 := (hbw.cell (p := ⟨g, o + j * 2 + 1, none⟩) hg).trans hx1
        obtain ⟨ee, hee⟩ : ∃ ee : Int, ee = (if fitB k = true then 0 else 1) := ⟨_, rfl⟩
        have HSP := pSet_c (w := wc.drew) hcut.out.p1 ds.a1 (by omega) x hxs k
        rw [← hee] at HSP
        clear hee HSE y0 y1 k0 k1 kf kl hx0 hx1 hbw
        go_wp2_with fail
        go_region_held (fun w' => w'.cell? ⟨g, o + j * 2, none⟩ = some (.string x) ∧ w'.cell? ⟨g, o + j * 2 + 1, none⟩ = some (.int .i64 k)) (go_keep) (first
          | (go_at_call 11; refine HSP.mono ?_; rintro e w5 ⟨rfl, hp5, ⟨cnt, D, hm5⟩, hg5⟩; have t2 := (grown_cell hg5 ⟨g, o + j * 2, none⟩ lgc nm).trans z0; have t3 := (grown_cell hg5 ⟨g, o + j * 2 + 1, none⟩ lgc nm).trans z1))
        all_goals
          rw [← HXK.out] at hp5
          have HS5 : Hid (SS w sb mb T (T + 1 + 1) (T + 1) U (fil l ++ fil (here.take (j + 1))) (fil l ++ fil (here.take (j + 1))) (fil l) (fil l) w5) := SS.prog (W := wc.drew) (SS.below hcut.out ⟨rfl, rfl, rfl, Nat.le_refl _, fun _ _ => rfl⟩) ds hp5 hm5 hg5
          clear hp5 hm5 hg5
          go_wp2_with fail
          go_roundg (nh - (j + 1))
          case measure => omega
          case rel => exact ⟨j + 1, by omega, rfl, by rw [Int.natCast_add]; rfl, HS5.out⟩
end Go.Proofs.Ytbpjgfemopakcaa
