/- The reference's reader: statements that assign, and ifs. -/
import Derived.Test.YtpnhefjiobnelaaGRd
namespace Go.Proofs.Ytpnhefjiobnelaa
open Go.RowKit Lg Rp
set_option linter.unusedVariables false
set_option linter.unusedSimpArgs false
theorem slice_st (w : World) (c0 c1 c2 c3 c4 c5 c6 c7 c8 c9 c10 c11 : Value) : (Instr.buildSlice 104 1 #[(0, .agg #[c0, c1, c2, c3, c4, c5, c6, c7, c8, c9, c10, c11])]).run Try.prog w = .ok (.slice (some ⟨w.heap.size, 0, none⟩) 1 1) (w.alloc (.cells #[c0, c1, c2, c3, c4, c5, c6, c7, c8, c9, c10, c11] 140)) := by kernel_rfl
set_option maxRecDepth 100000 in
set_option maxHeartbeats 4000000 in
theorem rStSet {b g cap k k1 : Nat} {l : List Tok} {w : World} {v : List Dc} (h : Rq b g cap l k w) (d : Nat) (hd : d ≤ 32) (hnm : nmK l k = true) (hb : sw l k wBegin = false) (hi : sw l k wIf = false) (hc : sw l k wCase = false) (hle : sw l (k + 1) [60, 61] = false) (heq : sw l (k + 1) [61] = true)
    (HE : ∀ w', Rq b g cap l (k + 1 + 1) w' → Calls Try.prog 48 #[.pointer (some ⟨b, 0, none⟩), .int .i64 1] w' fun e w'' => ExR b g cap l w' v k1 e w'') (hsc : sw l k1 [59] = true) :
    Calls Try.prog 75 #[.pointer (some ⟨b, 0, none⟩), .int .i64 d] w fun e w' => SlR b g cap l w 1 (stC 1 (tk l k).x v 0 [] 0 [] (tk l k).p) (k1 + 1) e w' := by
  have HT : Hid _ := h
  have hbl := h.blt
  have hgl := h.lt
  have hdI : (d : Int) ≤ 32 := by omega
  unfold ExR at HE
  obtain ⟨p, hp⟩ : ∃ p, (tk l k).p = p := ⟨_, rfl⟩
  obtain ⟨sx, hsx⟩ : ∃ sx, S (tk l k).x = sx := ⟨_, rfl⟩
  have HX : Hid _ := hsx
  have HP : Hid _ := hp
  clear h hd
  unfold SlR stC
  rw [hp]
  go_enter Try.func75, Try.ntmps75
  go_wp2_with (first
    | (have hx := hs12; refine wpl_sliceG rfl 104 1 _ rfl #[(0, .agg #[.int .i64 1, .string sx, a0, a1, a2, a3, a4, a5, .slice none 0 0, .slice none 0 0, .slice none 0 0, .int .i64 p])] (by kernel_rfl) #[.int .i64 1, .string sx, a0, a1, a2, a3, a4, a5, .slice none 0 0, .slice none 0 0, .slice none 0 0, .int .i64 p] 140 1 (slice_st _ _ _ _ _ _ _ _ _ _ _ _ _) ?_; intro w13 hb13 C13; have hs13 := hs12.below hb13; have hk13 : Kp b w12 w13 := Kp.of hb13; have y13 := hk13.le; have K13 := K12.trans hk13; have BS13 := hk13.at_ BS12 (by omega); have Da_13 := Da_12.kp hk13 (by omega))
    | (have hx := hs12; refine wpl_load rfl 140 _ rfl (w6.heap.size) rfl #[.int .i64 1, .string sx, a0, a1, a2, a3, a4, a5, .slice none 0 0, .slice none 0 0, .slice none 0 0, .int .i64 p] _ _ BS12 Try.underlying140 rfl st_size ?_)
    | (have hx := hs11; go_at_call 28; refine (rMust hs11 ⟨#[59]⟩ hsc).mono ?_; rintro e w12 ⟨rfl, hs12, hk12⟩; have y12 := hk12.le; have K12 := K11.trans hk12; have BS12 := hk12.at_ BS11 (by omega); have Da_12 := Da_11.kp hk12 (by omega))
    | (have hx := hs10; refine wpl_storeO rfl 81 _ _ rfl (w6.heap.size) 2 rfl (.agg #[a0, a1, a2, a3, a4, a5]) rfl _ _ BS10 xr_size (Nat.le_of_ble_eq_true rfl) (all6 ha) #[.int .i64 1, .string sx, a0, a1, a2, a3, a4, a5, .slice none 0 0, .slice none 0 0, .slice none 0 0, .int .i64 p] rfl ?_; intro w11 o11 BS11; have x11 := heap_lt BS10; have hs11 := hs10.oth o11 (by omega) (by omega); have K11 := K10.oth o11 (by omega); have y11 := Nat.le_of_eq o11.size; have u11 := Nat.le_of_eq o11.size.symm; have Da_11 := ha.oth o11 (by omega))
    | (have hx := hs9; go_at_call 48; refine (HE _ hs9).mono ?_; rintro e w10 ⟨⟨a0, a1, a2, a3, a4, a5, rfl, ha⟩, hs10, hk10⟩; have y10 := hk10.le; have K10 := K9.trans hk10; have BS10 := hk10.at_ BS9 (by omega))
    | (have hx := hs8; go_at_call 28; refine (rMust hs8 ⟨#[61]⟩ heq).mono ?_; rintro e w9 ⟨rfl, hs9, hk9⟩; have y9 := hk9.le; have K9 := K8.trans hk9; have BS9 := hk9.at_ BS8 (by omega))
    | (have hx := hs7; go_at_call 30; refine (rTk hs7 ⟨#[60, 61]⟩ false (k + 1) hle rfl).mono ?_; rintro e w8 ⟨rfl, hs8, hk8⟩; have y8 := hk8.le; have K8 := K7.trans hk8; have BS8 := hk8.at_ BS7 (by omega))
    | (have hx := hs6; refine wpl_newG rfl 140 _ _ rfl _ rfl rfl #[.int .i64 1, .string sx, .int .i64 0, .string ⟨#[]⟩, .string ⟨#[]⟩, .bool false, .slice none 0 0, .int .i64 0, .slice none 0 0, .slice none 0 0, .slice none 0 0, .int .i64 p] rfl _ _ st_size rfl (by rw [← Array.all_toList]; rfl) ?_; intro w7 hb7 BS7; have hs7 := hs6.below hb7; have hk7 : Kp b w6 w7 := Kp.of hb7; have y7 := hk7.le; have K7 := K6.trans hk7; have v7 := heap_lt BS7)
    | (have hx := hs5; go_at_call 29; refine (rNm hs5 hnm sx hsx).mono ?_; rintro e w6 ⟨rfl, hs6, hk6⟩; have y6 := hk6.le; have K6 := K5.trans hk6)
    | (have hx := hs4; go_at_call 30; refine (rTk hs4 ⟨#[99, 97, 115, 101]⟩ false k hc rfl).mono ?_; rintro e w5 ⟨rfl, hs5, hk5⟩; have y5 := hk5.le; have K5 := K4.trans hk5)
    | (have hx := hs3; go_at_call 30; refine (rTk hs3 ⟨#[105, 102]⟩ false k hi rfl).mono ?_; rintro e w4 ⟨rfl, hs4, hk4⟩; have y4 := hk4.le; have K4 := K3.trans hk4)
    | (have hx := hs2; go_at_call 30; refine (rTk hs2 ⟨#[98, 101, 103, 105, 110]⟩ false k hb rfl).mono ?_; rintro e w3 ⟨rfl, hs3, hk3⟩; have y3 := hk3.le; have K3 := K2.trans hk3)
    | (have hx := hs1; go_at_call 27; refine (rPl hs1 p hp).mono ?_; rintro e w2 ⟨rfl, hs2, hk2⟩; have y2 := hk2.le; have K2 := K1.trans hk2)
    | (go_at_call 46; refine (rNd HT.out true hnm).mono ?_; rintro e w1 ⟨rfl, hs1, hk1⟩; have y1 := hk1.le; have K1 := (Kp.refl b w).trans hk1)
    | (go_at_call 18; refine (rGoing (g := g) (cap := cap) (l := l) (k := k) (by first | exact hs1 | exact HT.out)).mono ?_; rintro e w' ⟨rfl, hw⟩; have hw2 := hw.symm; subst hw2))
  go_ret
  refine ⟨⟨_, _, rfl, ?_⟩, hs13, K13⟩
  have hD : DAt w12 (Ge w.heap.size) ([.i 1, .t (tk l k).x] ++ v ++ [.s 0 [], .s 0 [], .s 0 [], .i p]) [.int .i64 1, .string sx, a0, a1, a2, a3, a4, a5, .slice none 0 0, .slice none 0 0, .slice none 0 0, .int .i64 p] := by
    have h1 := (Da_12.monoG (B' := w.heap.size) (by omega))
    rw [← HX.out]
    exact .i (.t (h1.app (.s0 (.s0 (.s0 (.i .nil))))))
  exact DAt.single (c := #[.int .i64 1, .string sx, a0, a1, a2, a3, a4, a5, .slice none 0 0, .slice none 0 0, .slice none 0 0, .int .i64 p]) hD hb13 C13 (by omega)
set_option maxRecDepth 100000 in
set_option maxHeartbeats 4000000 in
theorem rStIf {b g cap k k1 k2 nb : Nat} {l : List Tok} {w : World} {v bd : List Dc} (h : Rq b g cap l k w) (d : Nat) (hd : d ≤ 32) (hnm : nmK l k = false) (hb : sw l k wBegin = false) (hi : sw l k wIf = true) (ho : sw l (k + 1) [40] = true)
    (HE : ∀ w', Rq b g cap l (k + 1 + 1) w' → Calls Try.prog 48 #[.pointer (some ⟨b, 0, none⟩), .int .i64 1] w' fun e w'' => ExR b g cap l w' v k1 e w'') (hsh : sw l k1 [41] = true)
    (H1 : ∀ w', Rq b g cap l (k1 + 1) w' → Calls Try.prog 75 #[.pointer (some ⟨b, 0, none⟩), .int .i64 ((d : Int) + 1)] w' fun e w'' => SlR b g cap l w' nb bd k2 e w'') (hel : sw l k2 wElse = false) :
    Calls Try.prog 75 #[.pointer (some ⟨b, 0, none⟩), .int .i64 d] w fun e w' => SlR b g cap l w 1 (stC 3 [] v nb bd 0 [] (tk l k).p) k2 e w' := by
  have HT : Hid _ := h
  have hbl := h.blt
  have hgl := h.lt
  have hdI : (d : Int) ≤ 32 := by omega
  unfold ExR at HE
  unfold SlR at H1
  obtain ⟨p, hp⟩ : ∃ p, (tk l k).p = p := ⟨_, rfl⟩
  have HP : Hid _ := hp
  clear h hd
  unfold SlR stC
  rw [hp]
  go_enter Try.func75, Try.ntmps75
  go_wp2_with (first
    | (have hx := hs14; refine wpl_sliceG rfl 104 1 _ rfl #[(0, .agg #[.int .i64 3, .string ⟨#[]⟩, a0, a1, a2, a3, a4, a5, .slice mo nb mc, .slice none 0 0, .slice none 0 0, .int .i64 p])] (by kernel_rfl) #[.int .i64 3, .string ⟨#[]⟩, a0, a1, a2, a3, a4, a5, .slice mo nb mc, .slice none 0 0, .slice none 0 0, .int .i64 p] 140 1 (slice_st _ _ _ _ _ _ _ _ _ _ _ _ _) ?_; intro w15 hb15 C15; have hs15 := hs14.below hb15; have hk15 : Kp b w14 w15 := Kp.of hb15; have y15 := hk15.le; have K15 := K14.trans hk15; have BS15 := hk15.at_ BS14 (by omega); have Da_15 := Da_14.kp hk15 (by omega); have Dm_15 := Dm_14.kp hk15 (by omega))
    | (have hx := hs14; refine wpl_load rfl 140 _ rfl (w6.heap.size) rfl #[.int .i64 3, .string ⟨#[]⟩, a0, a1, a2, a3, a4, a5, .slice mo nb mc, .slice none 0 0, .slice none 0 0, .int .i64 p] _ _ BS14 Try.underlying140 rfl st_size ?_)
    | (have hx := hs13; go_at_call 30; refine (rTk hs13 ⟨#[101, 108, 115, 101]⟩ false k2 hel rfl).mono ?_; rintro e w14 ⟨rfl, hs14, hk14⟩; have y14 := hk14.le; have K14 := K13.trans hk14; have BS14 := hk14.at_ BS13 (by omega); have Da_14 := Da_13.kp hk14 (by omega); have Dm_14 := Dm_13.kp hk14 (by omega))
    | (have hx := hs12; refine wpl_storeO rfl 104 _ _ rfl (w6.heap.size) 8 rfl (.slice mo nb mc) rfl _ _ BS12 sl_size (Nat.le_of_ble_eq_true rfl) (oneS _ _ _) #[.int .i64 3, .string ⟨#[]⟩, a0, a1, a2, a3, a4, a5, .slice mo nb mc, .slice none 0 0, .slice none 0 0, .int .i64 p] rfl ?_; intro w13 o13 BS13; have x13 := heap_lt BS12; have hs13 := hs12.oth o13 (by omega) (by omega); have K13 := K12.oth o13 (by omega); have y13 := Nat.le_of_eq o13.size; have u13 := Nat.le_of_eq o13.size.symm; have Da_13 := Da_12.oth o13 (by omega); have Dm_13 := hm.oth o13 (by omega))
    | (have hx := hs11; go_at_call 75; refine (H1 _ hs11).mono ?_; rintro e w12 ⟨⟨mo, mc, rfl, hm⟩, hs12, hk12⟩; have y12 := hk12.le; have K12 := K11.trans hk12; have BS12 := hk12.at_ BS11 (by omega); have Da_12 := Da_11.kp hk12 (by omega))
    | (have hx := hs10; go_at_call 28; refine (rMust hs10 ⟨#[41]⟩ hsh).mono ?_; rintro e w11 ⟨rfl, hs11, hk11⟩; have y11 := hk11.le; have K11 := K10.trans hk11; have BS11 := hk11.at_ BS10 (by omega); have Da_11 := Da_10.kp hk11 (by omega))
    | (have hx := hs9; refine wpl_storeO rfl 81 _ _ rfl (w6.heap.size) 2 rfl (.agg #[a0, a1, a2, a3, a4, a5]) rfl _ _ BS9 xr_size (Nat.le_of_ble_eq_true rfl) (all6 ha) #[.int .i64 3, .string ⟨#[]⟩, a0, a1, a2, a3, a4, a5, .slice none 0 0, .slice none 0 0, .slice none 0 0, .int .i64 p] rfl ?_; intro w10 o10 BS10; have x10 := heap_lt BS9; have hs10 := hs9.oth o10 (by omega) (by omega); have K10 := K9.oth o10 (by omega); have y10 := Nat.le_of_eq o10.size; have u10 := Nat.le_of_eq o10.size.symm; have Da_10 := ha.oth o10 (by omega))
    | (have hx := hs8; go_at_call 48; refine (HE _ hs8).mono ?_; rintro e w9 ⟨⟨a0, a1, a2, a3, a4, a5, rfl, ha⟩, hs9, hk9⟩; have y9 := hk9.le; have K9 := K8.trans hk9; have BS9 := hk9.at_ BS8 (by omega))
    | (have hx := hs7; go_at_call 28; refine (rMust hs7 ⟨#[40]⟩ ho).mono ?_; rintro e w8 ⟨rfl, hs8, hk8⟩; have y8 := hk8.le; have K8 := K7.trans hk8; have BS8 := hk8.at_ BS7 (by omega))
    | (have hx := hs6; refine wpl_newG rfl 140 _ _ rfl _ rfl rfl #[.int .i64 3, .string ⟨#[]⟩, .int .i64 0, .string ⟨#[]⟩, .string ⟨#[]⟩, .bool false, .slice none 0 0, .int .i64 0, .slice none 0 0, .slice none 0 0, .slice none 0 0, .int .i64 p] rfl _ _ st_size rfl (by rw [← Array.all_toList]; rfl) ?_; intro w7 hb7 BS7; have hs7 := hs6.below hb7; have hk7 : Kp b w6 w7 := Kp.of hb7; have y7 := hk7.le; have K7 := K6.trans hk7; have v7 := heap_lt BS7)
    | (have hx := hs5; go_at_call 30; refine (rTk hs5 ⟨#[105, 102]⟩ true (k + 1) hi rfl).mono ?_; rintro e w6 ⟨rfl, hs6, hk6⟩; have y6 := hk6.le; have K6 := K5.trans hk6)
    | (have hx := hs4; go_at_call 30; refine (rTk hs4 ⟨#[98, 101, 103, 105, 110]⟩ false k hb rfl).mono ?_; rintro e w5 ⟨rfl, hs5, hk5⟩; have y5 := hk5.le; have K5 := K4.trans hk5)
    | (have hx := hs3; go_at_call 27; refine (rPl hs3 p hp).mono ?_; rintro e w4 ⟨rfl, hs4, hk4⟩; have y4 := hk4.le; have K4 := K3.trans hk4)
    | (have hx := hs2; go_at_call 47; refine (rSe hs2 ⟨#[105, 102]⟩ true hi).mono ?_; rintro e w3 ⟨rfl, hs3, hk3⟩; have y3 := hk3.le; have K3 := K2.trans hk3)
    | (have hx := hs1; go_at_call 47; refine (rSe hs1 ⟨#[98, 101, 103, 105, 110]⟩ false hb).mono ?_; rintro e w2 ⟨rfl, hs2, hk2⟩; have y2 := hk2.le; have K2 := K1.trans hk2)
    | (go_at_call 46; refine (rNd HT.out false hnm).mono ?_; rintro e w1 ⟨rfl, hs1, hk1⟩; have y1 := hk1.le; have K1 := (Kp.refl b w).trans hk1)
    | (go_at_call 18; refine (rGoing (g := g) (cap := cap) (l := l) (k := k) (by first | exact hs3 | exact HT.out)).mono ?_; rintro e w' ⟨rfl, hw⟩; have hw2 := hw.symm; subst hw2))
  go_ret
  refine ⟨⟨_, _, rfl, ?_⟩, hs15, K15⟩
  have hD : DAt w14 (Ge w.heap.size) ([.i 3, .t []] ++ v ++ [.s nb bd, .s 0 [], .s 0 [], .i p]) [.int .i64 3, .string ⟨#[]⟩, a0, a1, a2, a3, a4, a5, .slice mo nb mc, .slice none 0 0, .slice none 0 0, .int .i64 p] := by
    have h1 := (Da_14.monoG (B' := w.heap.size) (by omega))
    have h2 := (Dm_14.monoG (B' := w.heap.size) (by omega))
    exact .i (.t (x := []) (h1.app (h2.app (.s0 (.s0 (.i .nil))))))
  exact DAt.single (c := #[.int .i64 3, .string ⟨#[]⟩, a0, a1, a2, a3, a4, a5, .slice mo nb mc, .slice none 0 0, .slice none 0 0, .int .i64 p]) hD hb15 C15 (by omega)
set_option maxRecDepth 100000 in
set_option maxHeartbeats 4000000 in
theorem rStIfE {b g cap k k1 k2 k3 nb ne : Nat} {l : List Tok} {w : World} {v bd el : List Dc} (h : Rq b g cap l k w) (d : Nat) (hd : d ≤ 32) (hnm : nmK l k = false) (hb : sw l k wBegin = false) (hi : sw l k wIf = true) (ho : sw l (k + 1) [40] = true)
    (HE : ∀ w', Rq b g cap l (k + 1 + 1) w' → Calls Try.prog 48 #[.pointer (some ⟨b, 0, none⟩), .int .i64 1] w' fun e w'' => ExR b g cap l w' v k1 e w'') (hsh : sw l k1 [41] = true)
    (H1 : ∀ w', Rq b g cap l (k1 + 1) w' → Calls Try.prog 75 #[.pointer (some ⟨b, 0, none⟩), .int .i64 ((d : Int) + 1)] w' fun e w'' => SlR b g cap l w' nb bd k2 e w'') (hel : sw l k2 wElse = true)
    (H2 : ∀ w', Rq b g cap l (k2 + 1) w' → Calls Try.prog 75 #[.pointer (some ⟨b, 0, none⟩), .int .i64 ((d : Int) + 1)] w' fun e w'' => SlR b g cap l w' ne el k3 e w'') :
    Calls Try.prog 75 #[.pointer (some ⟨b, 0, none⟩), .int .i64 d] w fun e w' => SlR b g cap l w 1 (stC 3 [] v nb bd ne el (tk l k).p) k3 e w' := by
  have HT : Hid _ := h
  have hbl := h.blt
  have hgl := h.lt
  have hdI : (d : Int) ≤ 32 := by omega
  unfold ExR at HE
  unfold SlR at H1 H2
  obtain ⟨p, hp⟩ : ∃ p, (tk l k).p = p := ⟨_, rfl⟩
  have HP : Hid _ := hp
  clear h hd
  unfold SlR stC
  rw [hp]
  go_enter Try.func75, Try.ntmps75
  go_wp2_with (first
    | (have hx := hs16; refine wpl_sliceG rfl 104 1 _ rfl #[(0, .agg #[.int .i64 3, .string ⟨#[]⟩, a0, a1, a2, a3, a4, a5, .slice mo nb mc, .slice qo ne qc, .slice none 0 0, .int .i64 p])] (by kernel_rfl) #[.int .i64 3, .string ⟨#[]⟩, a0, a1, a2, a3, a4, a5, .slice mo nb mc, .slice qo ne qc, .slice none 0 0, .int .i64 p] 140 1 (slice_st _ _ _ _ _ _ _ _ _ _ _ _ _) ?_; intro w17 hb17 C17; have hs17 := hs16.below hb17; have hk17 : Kp b w16 w17 := Kp.of hb17; have y17 := hk17.le; have K17 := K16.trans hk17; have BS17 := hk17.at_ BS16 (by omega); have Da_17 := Da_16.kp hk17 (by omega); have Dm_17 := Dm_16.kp hk17 (by omega); have Dq_17 := Dq_16.kp hk17 (by omega))
    | (have hx := hs16; refine wpl_load rfl 140 _ rfl (w6.heap.size) rfl #[.int .i64 3, .string ⟨#[]⟩, a0, a1, a2, a3, a4, a5, .slice mo nb mc, .slice qo ne qc, .slice none 0 0, .int .i64 p] _ _ BS16 Try.underlying140 rfl st_size ?_)
    | (have hx := hs15; refine wpl_storeO rfl 104 _ _ rfl (w6.heap.size) 9 rfl (.slice qo ne qc) rfl _ _ BS15 sl_size (Nat.le_of_ble_eq_true rfl) (oneS _ _ _) #[.int .i64 3, .string ⟨#[]⟩, a0, a1, a2, a3, a4, a5, .slice mo nb mc, .slice qo ne qc, .slice none 0 0, .int .i64 p] rfl ?_; intro w16 o16 BS16; have x16 := heap_lt BS15; have hs16 := hs15.oth o16 (by omega) (by omega); have K16 := K15.oth o16 (by omega); have y16 := Nat.le_of_eq o16.size; have u16 := Nat.le_of_eq o16.size.symm; have Da_16 := Da_15.oth o16 (by omega); have Dm_16 := Dm_15.oth o16 (by omega); have Dq_16 := hq.oth o16 (by omega))
    | (have hx := hs14; go_at_call 75; refine (H2 _ hs14).mono ?_; rintro e w15 ⟨⟨qo, qc, rfl, hq⟩, hs15, hk15⟩; have y15 := hk15.le; have K15 := K14.trans hk15; have BS15 := hk15.at_ BS14 (by omega); have Da_15 := Da_14.kp hk15 (by omega); have Dm_15 := Dm_14.kp hk15 (by omega))
    | (have hx := hs13; go_at_call 30; refine (rTk hs13 ⟨#[101, 108, 115, 101]⟩ true (k2 + 1) hel rfl).mono ?_; rintro e w14 ⟨rfl, hs14, hk14⟩; have y14 := hk14.le; have K14 := K13.trans hk14; have BS14 := hk14.at_ BS13 (by omega); have Da_14 := Da_13.kp hk14 (by omega); have Dm_14 := Dm_13.kp hk14 (by omega))
    | (have hx := hs12; refine wpl_storeO rfl 104 _ _ rfl (w6.heap.size) 8 rfl (.slice mo nb mc) rfl _ _ BS12 sl_size (Nat.le_of_ble_eq_true rfl) (oneS _ _ _) #[.int .i64 3, .string ⟨#[]⟩, a0, a1, a2, a3, a4, a5, .slice mo nb mc, .slice none 0 0, .slice none 0 0, .int .i64 p] rfl ?_; intro w13 o13 BS13; have x13 := heap_lt BS12; have hs13 := hs12.oth o13 (by omega) (by omega); have K13 := K12.oth o13 (by omega); have y13 := Nat.le_of_eq o13.size; have u13 := Nat.le_of_eq o13.size.symm; have Da_13 := Da_12.oth o13 (by omega); have Dm_13 := hm.oth o13 (by omega))
    | (have hx := hs11; go_at_call 75; refine (H1 _ hs11).mono ?_; rintro e w12 ⟨⟨mo, mc, rfl, hm⟩, hs12, hk12⟩; have y12 := hk12.le; have K12 := K11.trans hk12; have BS12 := hk12.at_ BS11 (by omega); have Da_12 := Da_11.kp hk12 (by omega))
    | (have hx := hs10; go_at_call 28; refine (rMust hs10 ⟨#[41]⟩ hsh).mono ?_; rintro e w11 ⟨rfl, hs11, hk11⟩; have y11 := hk11.le; have K11 := K10.trans hk11; have BS11 := hk11.at_ BS10 (by omega); have Da_11 := Da_10.kp hk11 (by omega))
    | (have hx := hs9; refine wpl_storeO rfl 81 _ _ rfl (w6.heap.size) 2 rfl (.agg #[a0, a1, a2, a3, a4, a5]) rfl _ _ BS9 xr_size (Nat.le_of_ble_eq_true rfl) (all6 ha) #[.int .i64 3, .string ⟨#[]⟩, a0, a1, a2, a3, a4, a5, .slice none 0 0, .slice none 0 0, .slice none 0 0, .int .i64 p] rfl ?_; intro w10 o10 BS10; have x10 := heap_lt BS9; have hs10 := hs9.oth o10 (by omega) (by omega); have K10 := K9.oth o10 (by omega); have y10 := Nat.le_of_eq o10.size; have u10 := Nat.le_of_eq o10.size.symm; have Da_10 := ha.oth o10 (by omega))
    | (have hx := hs8; go_at_call 48; refine (HE _ hs8).mono ?_; rintro e w9 ⟨⟨a0, a1, a2, a3, a4, a5, rfl, ha⟩, hs9, hk9⟩; have y9 := hk9.le; have K9 := K8.trans hk9; have BS9 := hk9.at_ BS8 (by omega))
    | (have hx := hs7; go_at_call 28; refine (rMust hs7 ⟨#[40]⟩ ho).mono ?_; rintro e w8 ⟨rfl, hs8, hk8⟩; have y8 := hk8.le; have K8 := K7.trans hk8; have BS8 := hk8.at_ BS7 (by omega))
    | (have hx := hs6; refine wpl_newG rfl 140 _ _ rfl _ rfl rfl #[.int .i64 3, .string ⟨#[]⟩, .int .i64 0, .string ⟨#[]⟩, .string ⟨#[]⟩, .bool false, .slice none 0 0, .int .i64 0, .slice none 0 0, .slice none 0 0, .slice none 0 0, .int .i64 p] rfl _ _ st_size rfl (by rw [← Array.all_toList]; rfl) ?_; intro w7 hb7 BS7; have hs7 := hs6.below hb7; have hk7 : Kp b w6 w7 := Kp.of hb7; have y7 := hk7.le; have K7 := K6.trans hk7; have v7 := heap_lt BS7)
    | (have hx := hs5; go_at_call 30; refine (rTk hs5 ⟨#[105, 102]⟩ true (k + 1) hi rfl).mono ?_; rintro e w6 ⟨rfl, hs6, hk6⟩; have y6 := hk6.le; have K6 := K5.trans hk6)
    | (have hx := hs4; go_at_call 30; refine (rTk hs4 ⟨#[98, 101, 103, 105, 110]⟩ false k hb rfl).mono ?_; rintro e w5 ⟨rfl, hs5, hk5⟩; have y5 := hk5.le; have K5 := K4.trans hk5)
    | (have hx := hs3; go_at_call 27; refine (rPl hs3 p hp).mono ?_; rintro e w4 ⟨rfl, hs4, hk4⟩; have y4 := hk4.le; have K4 := K3.trans hk4)
    | (have hx := hs2; go_at_call 47; refine (rSe hs2 ⟨#[105, 102]⟩ true hi).mono ?_; rintro e w3 ⟨rfl, hs3, hk3⟩; have y3 := hk3.le; have K3 := K2.trans hk3)
    | (have hx := hs1; go_at_call 47; refine (rSe hs1 ⟨#[98, 101, 103, 105, 110]⟩ false hb).mono ?_; rintro e w2 ⟨rfl, hs2, hk2⟩; have y2 := hk2.le; have K2 := K1.trans hk2)
    | (go_at_call 46; refine (rNd HT.out false hnm).mono ?_; rintro e w1 ⟨rfl, hs1, hk1⟩; have y1 := hk1.le; have K1 := (Kp.refl b w).trans hk1)
    | (go_at_call 18; refine (rGoing (g := g) (cap := cap) (l := l) (k := k) (by first | exact hs3 | exact HT.out)).mono ?_; rintro e w' ⟨rfl, hw⟩; have hw2 := hw.symm; subst hw2))
  go_ret
  refine ⟨⟨_, _, rfl, ?_⟩, hs17, K17⟩
  have hD : DAt w16 (Ge w.heap.size) ([.i 3, .t []] ++ v ++ [.s nb bd, .s ne el, .s 0 [], .i p]) [.int .i64 3, .string ⟨#[]⟩, a0, a1, a2, a3, a4, a5, .slice mo nb mc, .slice qo ne qc, .slice none 0 0, .int .i64 p] := by
    have h1 := (Da_16.monoG (B' := w.heap.size) (by omega))
    have h2 := (Dm_16.monoG (B' := w.heap.size) (by omega))
    have h3 := (Dq_16.monoG (B' := w.heap.size) (by omega))
    exact .i (.t (x := []) (h1.app (h2.app (h3.app (.s0 (.i .nil))))))
  exact DAt.single (c := #[.int .i64 3, .string ⟨#[]⟩, a0, a1, a2, a3, a4, a5, .slice mo nb mc, .slice qo ne qc, .slice none 0 0, .int .i64 p]) hD hb17 C17 (by omega)
end Go.Proofs.Ytpnhefjiobnelaa
