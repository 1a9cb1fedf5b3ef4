/- The reference's reader: fors. -/
import Derived.Test.YtpnhefjiobnelaaGRf
namespace Go.Proofs.Ytpnhefjiobnelaa
open Go.RowKit Lg Rp
set_option linter.unusedVariables false
set_option linter.unusedSimpArgs false

set_option maxRecDepth 100000 in
set_option maxHeartbeats 8000000 in
theorem rFor {b g cap k k1 k2 q k3 k4 p ni d : Nat} {l : List Tok} {w : World} {v wh nx its : List Dc} (h : Rq b g cap l k w) (hd : d ≤ 100) (h0 : sw l k [40] = true) (hn1 : nmK l (k + 1) = true) (h1 : sw l (k + 1 + 1) [61] = true) (HE1 : ∀ w', Rq b g cap l (k + 1 + 1 + 1) w' → Calls Try.prog 48 #[.pointer (some ⟨b, 0, none⟩), .int .i64 1] w' fun e w'' => ExR b g cap l w' v k1 e w'') (h2 : sw l k1 [59] = true) (HE2 : ∀ w', Rq b g cap l (k1 + 1) w' → Calls Try.prog 48 #[.pointer (some ⟨b, 0, none⟩), .int .i64 1] w' fun e w'' => ExR b g cap l w' wh k2 e w'') (h3 : sw l k2 [59] = true) (hq : k2 + 1 = q)
    (hn2 : nmK l q = true) (hsame : (tk l q).x = (tk l (k + 1)).x) (h4 : sw l (q + 1) [61] = true) (HE3 : ∀ w', Rq b g cap l (q + 1 + 1) w' → Calls Try.prog 48 #[.pointer (some ⟨b, 0, none⟩), .int .i64 1] w' fun e w'' => ExR b g cap l w' nx k3 e w'') (h5 : sw l k3 [41] = true) (h6 : sw l (k3 + 1) wBegin = true) (h7 : sw l (k3 + 1 + 1) [58] = true) (hn3 : nmK l (k3 + 1 + 1 + 1) = true)
    (HI : ∀ w', Rq b g cap l (k3 + 1 + 1 + 1 + 1) w' → Calls Try.prog 33 #[.pointer (some ⟨b, 0, none⟩), .string ⟨#[101, 110, 100]⟩, .int .i64 ((d : Int) + 1)] w' fun e w'' => SlR b g cap l w' ni its k4 e w'') :
    Calls Try.prog 61 #[.pointer (some ⟨b, 0, none⟩), .agg (itV (.int .i64 0) (.string ⟨#[]⟩) (.slice none 0 0) z6 z6 z6 (.string ⟨#[]⟩) (.slice none 0 0) (.slice none 0 0) (.int .i64 p)), .int .i64 d] w fun e w' => ItR b g cap l w (itD 8 (tk l (k3 + 1 + 1 + 1)).x 0 [] v wh nx (tk l (k + 1)).x 0 [] ni its p) k4 e w' := by
  have HT : Hid _ := h
  have hbl := h.blt
  have hgl := h.lt
  unfold ExR at HE1 HE2 HE3
  unfold SlR at HI
  obtain ⟨sv, hsv⟩ : ∃ sv, S (tk l (k + 1)).x = sv := ⟨_, rfl⟩
  have HX : Hid _ := hsv
  have HS2 : Hid (S (tk l q).x = sv) := by rw [hsame]; exact hsv
  obtain ⟨sn, hsn⟩ : ∃ sn, S (tk l (k3 + 1 + 1 + 1)).x = sn := ⟨_, rfl⟩
  have HX2 : Hid _ := hsn
  have HQ : Hid _ := hq
  have hwd : IntKind.i64.wrap ((d : Int) + 1) = (d : Int) + 1 := by rw [IntKind.wrap_i64]; omega
  obtain ⟨m, hm⟩ : ∃ m, m = l.length := ⟨_, rfl⟩
  have HMm : Hid _ := hm
  clear h hq hsame hm hd
  unfold ItR
  go_enter Try.func61, Try.ntmps61
  go_wp2_with (first
    | (have hx := hs9; go_at_call 28; refine (rMust hs9 ⟨#[59]⟩ h3).mono ?_; rintro e w10 ⟨rfl, hs10, hk10⟩; have y10 := hk10.le; have K10 := K9.trans hk10; have BI10 := hk10.at_ BI9 (by omega); have BR10 := hk10.at_ BR9 (by omega); have Da_10 := Da_9.kp hk10 (by omega); have Dc_10 := Dc_9.kp hk10 (by omega))
    | (have hx := hs8; refine wpl_storeO rfl 81 _ _ rfl (w.heap.size) 29 rfl (.agg #[c0, c1, c2, c3, c4, c5]) rfl _ _ BI8 xr_size (Nat.le_of_ble_eq_true rfl) (all6 hc) (itV (.int .i64 8) (.string ⟨#[]⟩) (.slice none 0 0) ⟨a0, a1, a2, a3, a4, a5⟩ ⟨c0, c1, c2, c3, c4, c5⟩ z6 (.string sv) (.slice none 0 0) (.slice none 0 0) (.int .i64 p)) (by kernel_rfl) ?_; intro w9 o9 BI9; have x9 := heap_lt BI8; have hs9 := hs8.oth o9 (by omega) (by omega); have K9 := K8.oth o9 (by omega); have y9 := Nat.le_of_eq o9.size; have u9 := Nat.le_of_eq o9.size.symm; have BR9 := (o9.block ((w.heap.size + 1)) (by omega)).trans BR8; have Da_9 := Da_8.oth o9 (by omega); have Dc_9 := hc.oth o9 (by omega))
    | (have hx := hs7; go_at_call 48; refine (HE2 _ hs7).mono ?_; rintro e w8 ⟨⟨c0, c1, c2, c3, c4, c5, rfl, hc⟩, hs8, hk8⟩; have y8 := hk8.le; have K8 := K7.trans hk8; have BI8 := hk8.at_ BI7 (by omega); have BR8 := hk8.at_ BR7 (by omega); have Da_8 := Da_7.kp hk8 (by omega))
    | (have hx := hs6; go_at_call 28; refine (rMust hs6 ⟨#[59]⟩ h2).mono ?_; rintro e w7 ⟨rfl, hs7, hk7⟩; have y7 := hk7.le; have K7 := K6.trans hk7; have BI7 := hk7.at_ BI6 (by omega); have BR7 := hk7.at_ BR6 (by omega); have Da_7 := Da_6.kp hk7 (by omega))
    | (have hx := hs5; refine wpl_storeO rfl 81 _ _ rfl (w.heap.size) 23 rfl (.agg #[a0, a1, a2, a3, a4, a5]) rfl _ _ BI5 xr_size (Nat.le_of_ble_eq_true rfl) (all6 ha) (itV (.int .i64 8) (.string ⟨#[]⟩) (.slice none 0 0) ⟨a0, a1, a2, a3, a4, a5⟩ z6 z6 (.string sv) (.slice none 0 0) (.slice none 0 0) (.int .i64 p)) (by kernel_rfl) ?_; intro w6 o6 BI6; have x6 := heap_lt BI5; have hs6 := hs5.oth o6 (by omega) (by omega); have K6 := K5.oth o6 (by omega); have y6 := Nat.le_of_eq o6.size; have u6 := Nat.le_of_eq o6.size.symm; have BR6 := (o6.block ((w.heap.size + 1)) (by omega)).trans BR5; have Da_6 := ha.oth o6 (by omega))
    | (have hx := hs4; go_at_call 48; refine (HE1 _ hs4).mono ?_; rintro e w5 ⟨⟨a0, a1, a2, a3, a4, a5, rfl, ha⟩, hs5, hk5⟩; have y5 := hk5.le; have K5 := K4.trans hk5; have BI5 := hk5.at_ BI4 (by omega); have BR5 := hk5.at_ BR4 (by omega))
    | (have hx := hs3; go_at_call 28; refine (rMust hs3 ⟨#[61]⟩ h1).mono ?_; rintro e w4 ⟨rfl, hs4, hk4⟩; have y4 := hk4.le; have K4 := K3.trans hk4; have BI4 := hk4.at_ BI3 (by omega); have BR4 := hk4.at_ BR3 (by omega))
    | (have hx := hs2; refine wpl_storeO rfl 9 _ _ rfl (w.heap.size) 41 rfl (.string sv) rfl _ _ BI2 str_size (Nat.le_of_ble_eq_true rfl) (oneT _) (itV (.int .i64 8) (.string ⟨#[]⟩) (.slice none 0 0) z6 z6 z6 (.string sv) (.slice none 0 0) (.slice none 0 0) (.int .i64 p)) (by kernel_rfl) ?_; intro w3 o3 BI3; have x3 := heap_lt BI2; have hs3 := hs2.oth o3 (by omega) (by omega); have K3 := K2.oth o3 (by omega); have y3 := Nat.le_of_eq o3.size; have u3 := Nat.le_of_eq o3.size.symm; have BR3 := (o3.block ((w.heap.size + 1)) (by omega)).trans BR2)
    | (have hx := hs1; go_at_call 29; refine (rNm hs1 hn1 sv hsv).mono ?_; rintro e w2 ⟨rfl, hs2, hk2⟩; have y2 := hk2.le; have K2 := K1.trans hk2; have BI2 := hk2.at_ BI1 (by omega); have BR2 := hk2.at_ BR1 (by omega))
    | (go_at_call 28; refine (rMust (HT.out.below (bel bxS bxS)) ⟨#[40]⟩ h0).mono ?_; rintro e w1 ⟨rfl, hs1, hk1⟩; have y1 : w.heap.size + 2 ≤ w1.heap.size := (by have := hk1.le; simp at this; omega); have K1 := (Kp.of (b := b) (bel bxS bxS)).trans hk1; have BI1 := hk1.at_ (last1 w _ _) (by omega); have BR1 := hk1.at_ (last2 w _ _) (by omega)))
  have hsP : Rq b g cap l q w10 := HQ.out ▸ hs10
  have HK : Hid _ := hsP.k
  have hkm : q < m := by have := hsP.k; have := HMm.out; omega
  have hkI : (q : Int) < (m : Int) := by omega
  obtain ⟨rc0, rc1, rc3, rcf⟩ := hsP.at_
  rw [← HMm.out] at rc0
  obtain ⟨rd0, rd1, rd2⟩ := hsP.tok hsP.k
  rw [HS2.out] at rd1
  have e3 : w10.cell? ⟨w.heap.size, 41, none⟩ = some (.string sv) := by rw [Lib.cell_of_heap BI10]; rfl
  go_region_held (fun w' => w'.cell? ⟨b, 0, none⟩ = some (.slice (some ⟨g, 0, none⟩) m cap) ∧ w'.cell? ⟨b, 1, none⟩ = some (.int .i64 q) ∧ w'.cell? ⟨g, q * 3 + 1, none⟩ = some (.string sv) ∧ w'.cell? ⟨w.heap.size, 41, none⟩ = some (.string sv)) (go_keep) (first
    | (go_at_call 46; refine (rNd (hsP.below belD) true hn2).mono ?_; rintro e w11 ⟨rfl, hs11, hkd11⟩; have hk11 : Kp b w10 w11 := (Kp.refl b w10).drew.trans hkd11; have y11 := hk11.le; have K11 := K10.trans hk11; have BI11 := hk11.at_ BI10 (by omega); have BR11 := hk11.at_ BR10 (by omega); have Da_11 := Da_10.kp hk11 (by omega); have Dc_11 := Dc_10.kp hk11 (by omega); obtain ⟨p0, p1, _, _⟩ := hs11.at_; rw [← HMm.out] at p0; obtain ⟨_, p2, _⟩ := hs11.tok HK.out; rw [HS2.out] at p2; have p3 : w11.cell? ⟨w.heap.size, 41, none⟩ = some (.string sv) := (by rw [Lib.cell_of_heap BI11]; rfl))
    | (go_at_call 18; refine (rGoing (hsP.below belD)).mono ?_; rintro e w' ⟨rfl, hw⟩; have hw2 := hw.symm; subst hw2))
  all_goals go_wp2_with (first
    | (have hx := hs22; refine wpl_store rfl 106 _ _ rfl (w.heap.size + 1) rfl (itV (.int .i64 8) (.string sn) (.slice none 0 0) ⟨a0, a1, a2, a3, a4, a5⟩ ⟨c0, c1, c2, c3, c4, c5⟩ ⟨n0, n1, n2, n3, n4, n5⟩ (.string sv) (.slice none 0 0) (.slice mo ni mc) (.int .i64 p)) rfl _ _ BR22 it_size rfl (itV_one rfl rfl rfl ha.one hc.one hn.one rfl rfl rfl rfl) ?_)
    | (have hx := hs22; refine wpl_load rfl 106 _ rfl (w.heap.size) rfl (itV (.int .i64 8) (.string sn) (.slice none 0 0) ⟨a0, a1, a2, a3, a4, a5⟩ ⟨c0, c1, c2, c3, c4, c5⟩ ⟨n0, n1, n2, n3, n4, n5⟩ (.string sv) (.slice none 0 0) (.slice mo ni mc) (.int .i64 p)) _ _ BI22 Try.underlying106 rfl it_size ?_)
    | (have hx := hs21; refine wpl_storeO rfl 57 _ _ rfl (w.heap.size) 46 rfl (.slice mo ni mc) rfl _ _ BI21 sit_size (Nat.le_of_ble_eq_true rfl) (oneS _ _ _) (itV (.int .i64 8) (.string sn) (.slice none 0 0) ⟨a0, a1, a2, a3, a4, a5⟩ ⟨c0, c1, c2, c3, c4, c5⟩ ⟨n0, n1, n2, n3, n4, n5⟩ (.string sv) (.slice none 0 0) (.slice mo ni mc) (.int .i64 p)) (by kernel_rfl) ?_; intro w22 o22 BI22; have x22 := heap_lt BI21; have hs22 := hs21.oth o22 (by omega) (by omega); have K22 := K21.oth o22 (by omega); have y22 := Nat.le_of_eq o22.size; have u22 := Nat.le_of_eq o22.size.symm; have BR22 := (o22.block ((w.heap.size + 1)) (by omega)).trans BR21; have Da_22 := Da_21.oth o22 (by omega); have Dc_22 := Dc_21.oth o22 (by omega); have Dn_22 := Dn_21.oth o22 (by omega); have Dm_22 := hm.oth o22 (by omega))
    | (have hx := hs20; go_at_call 33; refine (HI _ hs20).mono ?_; rintro e w21 ⟨⟨mo, mc, rfl, hm⟩, hs21, hk21⟩; have y21 := hk21.le; have K21 := K20.trans hk21; have BI21 := hk21.at_ BI20 (by omega); have BR21 := hk21.at_ BR20 (by omega); have Da_21 := Da_20.kp hk21 (by omega); have Dc_21 := Dc_20.kp hk21 (by omega); have Dn_21 := Dn_20.kp hk21 (by omega))
    | (have hx := hs19; refine wpl_storeO rfl 9 _ _ rfl (w.heap.size) 1 rfl (.string sn) rfl _ _ BI19 str_size (Nat.le_of_ble_eq_true rfl) (oneT _) (itV (.int .i64 8) (.string sn) (.slice none 0 0) ⟨a0, a1, a2, a3, a4, a5⟩ ⟨c0, c1, c2, c3, c4, c5⟩ ⟨n0, n1, n2, n3, n4, n5⟩ (.string sv) (.slice none 0 0) (.slice none 0 0) (.int .i64 p)) (by kernel_rfl) ?_; intro w20 o20 BI20; have x20 := heap_lt BI19; have hs20 := hs19.oth o20 (by omega) (by omega); have K20 := K19.oth o20 (by omega); have y20 := Nat.le_of_eq o20.size; have u20 := Nat.le_of_eq o20.size.symm; have BR20 := (o20.block ((w.heap.size + 1)) (by omega)).trans BR19; have Da_20 := Da_19.oth o20 (by omega); have Dc_20 := Dc_19.oth o20 (by omega); have Dn_20 := Dn_19.oth o20 (by omega))
    | (have hx := hs18; go_at_call 29; refine (rNm hs18 hn3 sn hsn).mono ?_; rintro e w19 ⟨rfl, hs19, hk19⟩; have y19 := hk19.le; have K19 := K18.trans hk19; have BI19 := hk19.at_ BI18 (by omega); have BR19 := hk19.at_ BR18 (by omega); have Da_19 := Da_18.kp hk19 (by omega); have Dc_19 := Dc_18.kp hk19 (by omega); have Dn_19 := Dn_18.kp hk19 (by omega))
    | (have hx := hs17; go_at_call 28; refine (rMust hs17 ⟨#[58]⟩ h7).mono ?_; rintro e w18 ⟨rfl, hs18, hk18⟩; have y18 := hk18.le; have K18 := K17.trans hk18; have BI18 := hk18.at_ BI17 (by omega); have BR18 := hk18.at_ BR17 (by omega); have Da_18 := Da_17.kp hk18 (by omega); have Dc_18 := Dc_17.kp hk18 (by omega); have Dn_18 := Dn_17.kp hk18 (by omega))
    | (have hx := hs16; go_at_call 28; refine (rMust hs16 ⟨#[98, 101, 103, 105, 110]⟩ h6).mono ?_; rintro e w17 ⟨rfl, hs17, hk17⟩; have y17 := hk17.le; have K17 := K16.trans hk17; have BI17 := hk17.at_ BI16 (by omega); have BR17 := hk17.at_ BR16 (by omega); have Da_17 := Da_16.kp hk17 (by omega); have Dc_17 := Dc_16.kp hk17 (by omega); have Dn_17 := Dn_16.kp hk17 (by omega))
    | (have hx := hs15; go_at_call 28; refine (rMust hs15 ⟨#[41]⟩ h5).mono ?_; rintro e w16 ⟨rfl, hs16, hk16⟩; have y16 := hk16.le; have K16 := K15.trans hk16; have BI16 := hk16.at_ BI15 (by omega); have BR16 := hk16.at_ BR15 (by omega); have Da_16 := Da_15.kp hk16 (by omega); have Dc_16 := Dc_15.kp hk16 (by omega); have Dn_16 := Dn_15.kp hk16 (by omega))
    | (have hx := hs14; refine wpl_storeO rfl 81 _ _ rfl (w.heap.size) 35 rfl (.agg #[n0, n1, n2, n3, n4, n5]) rfl _ _ BI14 xr_size (Nat.le_of_ble_eq_true rfl) (all6 hn) (itV (.int .i64 8) (.string ⟨#[]⟩) (.slice none 0 0) ⟨a0, a1, a2, a3, a4, a5⟩ ⟨c0, c1, c2, c3, c4, c5⟩ ⟨n0, n1, n2, n3, n4, n5⟩ (.string sv) (.slice none 0 0) (.slice none 0 0) (.int .i64 p)) (by kernel_rfl) ?_; intro w15 o15 BI15; have x15 := heap_lt BI14; have hs15 := hs14.oth o15 (by omega) (by omega); have K15 := K14.oth o15 (by omega); have y15 := Nat.le_of_eq o15.size; have u15 := Nat.le_of_eq o15.size.symm; have BR15 := (o15.block ((w.heap.size + 1)) (by omega)).trans BR14; have Da_15 := Da_14.oth o15 (by omega); have Dc_15 := Dc_14.oth o15 (by omega); have Dn_15 := hn.oth o15 (by omega))
    | (have hx := hs13; go_at_call 48; refine (HE3 _ hs13).mono ?_; rintro e w14 ⟨⟨n0, n1, n2, n3, n4, n5, rfl, hn⟩, hs14, hk14⟩; have y14 := hk14.le; have K14 := K13.trans hk14; have BI14 := hk14.at_ BI13 (by omega); have BR14 := hk14.at_ BR13 (by omega); have Da_14 := Da_13.kp hk14 (by omega); have Dc_14 := Dc_13.kp hk14 (by omega))
    | (have hx := hs12; go_at_call 28; refine (rMust hs12 ⟨#[61]⟩ h4).mono ?_; rintro e w13 ⟨rfl, hs13, hk13⟩; have y13 := hk13.le; have K13 := K12.trans hk13; have BI13 := hk13.at_ BI12 (by omega); have BR13 := hk13.at_ BR12 (by omega); have Da_13 := Da_12.kp hk13 (by omega); have Dc_13 := Dc_12.kp hk13 (by omega))
    | (have hx := hs11; go_at_call 29; refine (rNm hs11 hn2 sv HS2.out).mono ?_; rintro e w12 ⟨rfl, hs12, hk12⟩; have y12 := hk12.le; have K12 := K11.trans hk12; have BI12 := hk12.at_ BI11 (by omega); have BR12 := hk12.at_ BR11 (by omega); have Da_12 := Da_11.kp hk12 (by omega); have Dc_12 := Dc_11.kp hk12 (by omega)))
  all_goals
    have hsx2 := HX.out
    subst hsx2
    have hsx3 := HX2.out
    subst hsx3
    refine bodyPost_ret (results_cell (r := 6) (t := 106) rfl (w.heap.size + 1) rfl _ _ _ (setRow_at BR22) Try.underlying106 rfl it_size) rfl ?_
    have hD := itV_dat (w := w22) (N := Ge (w.heap.size + 2)) (kd := 8) (nm := (tk l (k3 + 1 + 1 + 1)).x) (vr := (tk l (k + 1)).x) (p := p) (v := ⟨a0, a1, a2, a3, a4, a5⟩) (wh := ⟨c0, c1, c2, c3, c4, c5⟩) (nx := ⟨n0, n1, n2, n3, n4, n5⟩) (.s0 .nil) (Da_22.monoG (B' := w.heap.size + 2) (by omega)) (Dc_22.monoG (B' := w.heap.size + 2) (by omega)) (Dn_22.monoG (B' := w.heap.size + 2) (by omega)) (.s0 .nil) (Dm_22.monoG (B' := w.heap.size + 2) (by omega))
    exact ⟨⟨_, _, _, _, _, _, _, _, _, _, rfl, (hD.keep (Up.row (by unfold Ge; omega))).monoG (by omega)⟩, hs22.row (by omega) (by omega), K22.row (by omega)⟩
end Go.Proofs.Ytpnhefjiobnelaa
