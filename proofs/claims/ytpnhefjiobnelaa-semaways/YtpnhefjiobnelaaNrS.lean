/- The reference's reader: items. -/
import Derived.Test.YtpnhefjiobnelaaNrR
namespace Go.Proofs.Ytpnhefjiobnelaa
open Go.RowKit Lg Rp
set_option linter.unusedVariables false
set_option linter.unusedSimpArgs false

set_option maxRecDepth 100000 in
set_option maxHeartbeats 4000000 in
theorem rItem_wire {b g cap k k' p : Nat} {l : List Tok} {w : World} {x : List Dc} (h : Rq b g cap l k w) (d : Nat) (hd : d ≤ 32) (hp : (tk l k).p = p) (hnm : nmK l k = false) (hwi : sw l k wWire = true)
    (HC : ∀ w', Rq b g cap l (k + 1) w' → Calls Try.prog 58 #[.pointer (some ⟨b, 0, none⟩), .agg (itV (.int .i64 0) (.string ⟨#[]⟩) (.slice none 0 0) z6 z6 z6 (.string ⟨#[]⟩) (.slice none 0 0) (.slice none 0 0) (.int .i64 p)), .int .i64 1] w' fun e w'' => ItR b g cap l w' x k' e w'') :
    Calls Try.prog 50 #[.pointer (some ⟨b, 0, none⟩), .int .i64 d] w fun e w' => ItR b g cap l w x k' e w' := by
  have HT : Hid _ := h
  have hbl := h.blt
  have hgl := h.lt
  have hdI : (d : Int) ≤ 32 := by omega
  unfold ItR at HC ⊢
  clear h hd
  go_enter Try.func50, Try.ntmps50
  go_wp2_with (first
    | (have hx := hs5; refine wpl_store rfl 106 _ _ rfl (w.heap.size) rfl _ rfl _ _ BR5 it_size rfl (all_one hD) ?_)
    | (have hx := hs4; go_at_call 58; refine (HC _ hs4).mono ?_; rintro e w5 ⟨⟨kd, nm, nms, vv, vw, vn, vr, vb, vi, vp, rfl, hD⟩, hs5, hk5⟩; have y5 := hk5.le; have K5 := K4.trans hk5; have BR5 := hk5.at_ BR4 (by omega); have BI5 := hk5.at_ BI4 (by omega))
    | (have hx := hs4; refine wpl_load rfl 106 _ rfl (w2.heap.size) rfl (itV (.int .i64 0) (.string ⟨#[]⟩) (.slice none 0 0) z6 z6 z6 (.string ⟨#[]⟩) (.slice none 0 0) (.slice none 0 0) (.int .i64 p)) _ _ BI4 Try.underlying106 rfl it_size ?_)
    | (have hx := hs3; go_at_call 30; refine (rTk hs3 ⟨#[119, 105, 114, 101]⟩ true (k + 1) hwi rfl).mono ?_; rintro e w4 ⟨rfl, hs4, hk4⟩; have y4 := hk4.le; have K4 := K3.trans hk4; have BR4 := hk4.at_ BR3 (by omega); have BI4 := hk4.at_ BI3 (by omega))
    | (have hx := hs2; refine wpl_newG rfl 106 _ _ rfl _ rfl rfl (itV (.int .i64 0) (.string ⟨#[]⟩) (.slice none 0 0) z6 z6 z6 (.string ⟨#[]⟩) (.slice none 0 0) (.slice none 0 0) (.int .i64 p)) rfl _ _ it_size rfl (it0_one _) ?_; intro w3 hb3 BI3; have hs3 := hs2.below hb3; have hk3 : Kp b w2 w3 := Kp.of hb3; have y3 := hk3.le; have K3 := K2.trans hk3; have BR3 := hk3.at_ BR2 (by omega); have v3 := heap_lt BI3)
    | (have hx := hs2; refine wpl_build rfl 106 _ rfl #[(17, .int .i64 p)] (by kernel_rfl) _ (build_it0 _ _) ?_)
    | (have hx := hs1; go_at_call 27; refine (rPl hs1 p hp).mono ?_; rintro e w2 ⟨rfl, hs2, hk2⟩; have y2 := hk2.le; have K2 := K1.trans hk2; have BR2 := hk2.at_ BR1 (by omega))
    | (go_at_call 57; refine (rStarts_wire (HT.out.below bxS) hnm hwi).mono ?_; rintro e w1 ⟨rfl, hs1, hk1⟩; have y1 : w.heap.size + 1 ≤ w1.heap.size := (by have := hk1.le; simp at this; omega); have K1 := (Kp.of (b := b) bxS).trans hk1; have BR1 := hk1.at_ (heap_alloc_last w _) (by omega))
    | (go_at_call 18; refine (rGoing (g := g) (cap := cap) (l := l) (k := k) (by first | exact hs1 | exact (HT.out.below bxS))).mono ?_; rintro e w' ⟨rfl, hw⟩; have hw2 := hw.symm; subst hw2))
  refine bodyPost_ret (results_cell (r := 4) (t := 106) rfl w.heap.size rfl _ _ _ (setRow_at BR5) Try.underlying106 rfl it_size) rfl ?_
  exact ⟨⟨_, _, _, _, _, _, _, _, _, _, rfl, (hD.keep (Up.row (by unfold Ge; omega))).monoG (by omega)⟩, hs5.row (by omega) (by omega), K5.row (by omega)⟩
set_option maxRecDepth 100000 in
set_option maxHeartbeats 4000000 in
theorem rItem_assign {b g cap k k' p : Nat} {l : List Tok} {w : World} {x : List Dc} (h : Rq b g cap l k w) (d : Nat) (hd : d ≤ 32) (hp : (tk l k).p = p) (hnm : nmK l k = false) (hwi : sw l k wWire = false) (hre : sw l k wReg = false) (hlo : sw l k wLocal = false) (has : sw l k wAssign = true)
    (HC : ∀ w', Rq b g cap l (k + 1) w' → Calls Try.prog 59 #[.pointer (some ⟨b, 0, none⟩), .agg (itV (.int .i64 0) (.string ⟨#[]⟩) (.slice none 0 0) z6 z6 z6 (.string ⟨#[]⟩) (.slice none 0 0) (.slice none 0 0) (.int .i64 p))] w' fun e w'' => ItR b g cap l w' x k' e w'') :
    Calls Try.prog 50 #[.pointer (some ⟨b, 0, none⟩), .int .i64 d] w fun e w' => ItR b g cap l w x k' e w' := by
  have HT : Hid _ := h
  have hbl := h.blt
  have hgl := h.lt
  have hdI : (d : Int) ≤ 32 := by omega
  unfold ItR at HC ⊢
  clear h hd
  go_enter Try.func50, Try.ntmps50
  go_wp2_with (first
    | (have hx := hs8; refine wpl_store rfl 106 _ _ rfl (w.heap.size) rfl _ rfl _ _ BR8 it_size rfl (all_one hD) ?_)
    | (have hx := hs7; go_at_call 59; refine (HC _ hs7).mono ?_; rintro e w8 ⟨⟨kd, nm, nms, vv, vw, vn, vr, vb, vi, vp, rfl, hD⟩, hs8, hk8⟩; have y8 := hk8.le; have K8 := K7.trans hk8; have BR8 := hk8.at_ BR7 (by omega); have BI8 := hk8.at_ BI7 (by omega))
    | (have hx := hs7; refine wpl_load rfl 106 _ rfl (w2.heap.size) rfl (itV (.int .i64 0) (.string ⟨#[]⟩) (.slice none 0 0) z6 z6 z6 (.string ⟨#[]⟩) (.slice none 0 0) (.slice none 0 0) (.int .i64 p)) _ _ BI7 Try.underlying106 rfl it_size ?_)
    | (have hx := hs6; go_at_call 30; refine (rTk hs6 ⟨#[97, 115, 115, 105, 103, 110]⟩ true (k + 1) has rfl).mono ?_; rintro e w7 ⟨rfl, hs7, hk7⟩; have y7 := hk7.le; have K7 := K6.trans hk7; have BR7 := hk7.at_ BR6 (by omega); have BI7 := hk7.at_ BI6 (by omega))
    | (have hx := hs5; go_at_call 30; refine (rTk hs5 ⟨#[108, 111, 99, 97, 108, 112, 97, 114, 97, 109]⟩ false k hlo rfl).mono ?_; rintro e w6 ⟨rfl, hs6, hk6⟩; have y6 := hk6.le; have K6 := K5.trans hk6; have BR6 := hk6.at_ BR5 (by omega); have BI6 := hk6.at_ BI5 (by omega))
    | (have hx := hs4; go_at_call 30; refine (rTk hs4 ⟨#[114, 101, 103]⟩ false k hre rfl).mono ?_; rintro e w5 ⟨rfl, hs5, hk5⟩; have y5 := hk5.le; have K5 := K4.trans hk5; have BR5 := hk5.at_ BR4 (by omega); have BI5 := hk5.at_ BI4 (by omega))
    | (have hx := hs3; go_at_call 30; refine (rTk hs3 ⟨#[119, 105, 114, 101]⟩ false k hwi rfl).mono ?_; rintro e w4 ⟨rfl, hs4, hk4⟩; have y4 := hk4.le; have K4 := K3.trans hk4; have BR4 := hk4.at_ BR3 (by omega); have BI4 := hk4.at_ BI3 (by omega))
    | (have hx := hs2; refine wpl_newG rfl 106 _ _ rfl _ rfl rfl (itV (.int .i64 0) (.string ⟨#[]⟩) (.slice none 0 0) z6 z6 z6 (.string ⟨#[]⟩) (.slice none 0 0) (.slice none 0 0) (.int .i64 p)) rfl _ _ it_size rfl (it0_one _) ?_; intro w3 hb3 BI3; have hs3 := hs2.below hb3; have hk3 : Kp b w2 w3 := Kp.of hb3; have y3 := hk3.le; have K3 := K2.trans hk3; have BR3 := hk3.at_ BR2 (by omega); have v3 := heap_lt BI3)
    | (have hx := hs2; refine wpl_build rfl 106 _ rfl #[(17, .int .i64 p)] (by kernel_rfl) _ (build_it0 _ _) ?_)
    | (have hx := hs1; go_at_call 27; refine (rPl hs1 p hp).mono ?_; rintro e w2 ⟨rfl, hs2, hk2⟩; have y2 := hk2.le; have K2 := K1.trans hk2; have BR2 := hk2.at_ BR1 (by omega))
    | (go_at_call 57; refine (rStarts_assign (HT.out.below bxS) hnm hwi hre hlo has).mono ?_; rintro e w1 ⟨rfl, hs1, hk1⟩; have y1 : w.heap.size + 1 ≤ w1.heap.size := (by have := hk1.le; simp at this; omega); have K1 := (Kp.of (b := b) bxS).trans hk1; have BR1 := hk1.at_ (heap_alloc_last w _) (by omega))
    | (go_at_call 18; refine (rGoing (g := g) (cap := cap) (l := l) (k := k) (by first | exact hs1 | exact (HT.out.below bxS))).mono ?_; rintro e w' ⟨rfl, hw⟩; have hw2 := hw.symm; subst hw2))
  refine bodyPost_ret (results_cell (r := 4) (t := 106) rfl w.heap.size rfl _ _ _ (setRow_at BR8) Try.underlying106 rfl it_size) rfl ?_
  exact ⟨⟨_, _, _, _, _, _, _, _, _, _, rfl, (hD.keep (Up.row (by unfold Ge; omega))).monoG (by omega)⟩, hs8.row (by omega) (by omega), K8.row (by omega)⟩
set_option maxRecDepth 100000 in
set_option maxHeartbeats 4000000 in
theorem rItem_always {b g cap k k' p : Nat} {l : List Tok} {w : World} {x : List Dc} (h : Rq b g cap l k w) (d : Nat) (hd : d ≤ 32) (hp : (tk l k).p = p) (hnm : nmK l k = false) (hwi : sw l k wWire = false) (hre : sw l k wReg = false) (hlo : sw l k wLocal = false) (has : sw l k wAssign = false) (hal : sw l k wAlways = true)
    (HC : ∀ w', Rq b g cap l (k + 1) w' → Calls Try.prog 60 #[.pointer (some ⟨b, 0, none⟩), .agg (itV (.int .i64 0) (.string ⟨#[]⟩) (.slice none 0 0) z6 z6 z6 (.string ⟨#[]⟩) (.slice none 0 0) (.slice none 0 0) (.int .i64 p))] w' fun e w'' => ItR b g cap l w' x k' e w'') :
    Calls Try.prog 50 #[.pointer (some ⟨b, 0, none⟩), .int .i64 d] w fun e w' => ItR b g cap l w x k' e w' := by
  have HT : Hid _ := h
  have hbl := h.blt
  have hgl := h.lt
  have hdI : (d : Int) ≤ 32 := by omega
  unfold ItR at HC ⊢
  clear h hd
  go_enter Try.func50, Try.ntmps50
  go_wp2_with (first
    | (have hx := hs9; refine wpl_store rfl 106 _ _ rfl (w.heap.size) rfl _ rfl _ _ BR9 it_size rfl (all_one hD) ?_)
    | (have hx := hs8; go_at_call 60; refine (HC _ hs8).mono ?_; rintro e w9 ⟨⟨kd, nm, nms, vv, vw, vn, vr, vb, vi, vp, rfl, hD⟩, hs9, hk9⟩; have y9 := hk9.le; have K9 := K8.trans hk9; have BR9 := hk9.at_ BR8 (by omega); have BI9 := hk9.at_ BI8 (by omega))
    | (have hx := hs8; refine wpl_load rfl 106 _ rfl (w2.heap.size) rfl (itV (.int .i64 0) (.string ⟨#[]⟩) (.slice none 0 0) z6 z6 z6 (.string ⟨#[]⟩) (.slice none 0 0) (.slice none 0 0) (.int .i64 p)) _ _ BI8 Try.underlying106 rfl it_size ?_)
    | (have hx := hs7; go_at_call 30; refine (rTk hs7 ⟨#[97, 108, 119, 97, 121, 115]⟩ true (k + 1) hal rfl).mono ?_; rintro e w8 ⟨rfl, hs8, hk8⟩; have y8 := hk8.le; have K8 := K7.trans hk8; have BR8 := hk8.at_ BR7 (by omega); have BI8 := hk8.at_ BI7 (by omega))
    | (have hx := hs6; go_at_call 30; refine (rTk hs6 ⟨#[97, 115, 115, 105, 103, 110]⟩ false k has rfl).mono ?_; rintro e w7 ⟨rfl, hs7, hk7⟩; have y7 := hk7.le; have K7 := K6.trans hk7; have BR7 := hk7.at_ BR6 (by omega); have BI7 := hk7.at_ BI6 (by omega))
    | (have hx := hs5; go_at_call 30; refine (rTk hs5 ⟨#[108, 111, 99, 97, 108, 112, 97, 114, 97, 109]⟩ false k hlo rfl).mono ?_; rintro e w6 ⟨rfl, hs6, hk6⟩; have y6 := hk6.le; have K6 := K5.trans hk6; have BR6 := hk6.at_ BR5 (by omega); have BI6 := hk6.at_ BI5 (by omega))
    | (have hx := hs4; go_at_call 30; refine (rTk hs4 ⟨#[114, 101, 103]⟩ false k hre rfl).mono ?_; rintro e w5 ⟨rfl, hs5, hk5⟩; have y5 := hk5.le; have K5 := K4.trans hk5; have BR5 := hk5.at_ BR4 (by omega); have BI5 := hk5.at_ BI4 (by omega))
    | (have hx := hs3; go_at_call 30; refine (rTk hs3 ⟨#[119, 105, 114, 101]⟩ false k hwi rfl).mono ?_; rintro e w4 ⟨rfl, hs4, hk4⟩; have y4 := hk4.le; have K4 := K3.trans hk4; have BR4 := hk4.at_ BR3 (by omega); have BI4 := hk4.at_ BI3 (by omega))
    | (have hx := hs2; refine wpl_newG rfl 106 _ _ rfl _ rfl rfl (itV (.int .i64 0) (.string ⟨#[]⟩) (.slice none 0 0) z6 z6 z6 (.string ⟨#[]⟩) (.slice none 0 0) (.slice none 0 0) (.int .i64 p)) rfl _ _ it_size rfl (it0_one _) ?_; intro w3 hb3 BI3; have hs3 := hs2.below hb3; have hk3 : Kp b w2 w3 := Kp.of hb3; have y3 := hk3.le; have K3 := K2.trans hk3; have BR3 := hk3.at_ BR2 (by omega); have v3 := heap_lt BI3)
    | (have hx := hs2; refine wpl_build rfl 106 _ rfl #[(17, .int .i64 p)] (by kernel_rfl) _ (build_it0 _ _) ?_)
    | (have hx := hs1; go_at_call 27; refine (rPl hs1 p hp).mono ?_; rintro e w2 ⟨rfl, hs2, hk2⟩; have y2 := hk2.le; have K2 := K1.trans hk2; have BR2 := hk2.at_ BR1 (by omega))
    | (go_at_call 57; refine (rStarts_always (HT.out.below bxS) hnm hwi hre hlo has hal).mono ?_; rintro e w1 ⟨rfl, hs1, hk1⟩; have y1 : w.heap.size + 1 ≤ w1.heap.size := (by have := hk1.le; simp at this; omega); have K1 := (Kp.of (b := b) bxS).trans hk1; have BR1 := hk1.at_ (heap_alloc_last w _) (by omega))
    | (go_at_call 18; refine (rGoing (g := g) (cap := cap) (l := l) (k := k) (by first | exact hs1 | exact (HT.out.below bxS))).mono ?_; rintro e w' ⟨rfl, hw⟩; have hw2 := hw.symm; subst hw2))
  refine bodyPost_ret (results_cell (r := 4) (t := 106) rfl w.heap.size rfl _ _ _ (setRow_at BR9) Try.underlying106 rfl it_size) rfl ?_
  exact ⟨⟨_, _, _, _, _, _, _, _, _, _, rfl, (hD.keep (Up.row (by unfold Ge; omega))).monoG (by omega)⟩, hs9.row (by omega) (by omega), K9.row (by omega)⟩
set_option maxRecDepth 100000 in
set_option maxHeartbeats 4000000 in
theorem rItem_for {b g cap k k' p : Nat} {l : List Tok} {w : World} {x : List Dc} (h : Rq b g cap l k w) (d : Nat) (hd : d ≤ 32) (hp : (tk l k).p = p) (hnm : nmK l k = false) (hwi : sw l k wWire = false) (hre : sw l k wReg = false) (hlo : sw l k wLocal = false) (has : sw l k wAssign = false) (hal : sw l k wAlways = false) (hfo : sw l k wFor = true)
    (HC : ∀ w', Rq b g cap l (k + 1) w' → Calls Try.prog 61 #[.pointer (some ⟨b, 0, none⟩), .agg (itV (.int .i64 0) (.string ⟨#[]⟩) (.slice none 0 0) z6 z6 z6 (.string ⟨#[]⟩) (.slice none 0 0) (.slice none 0 0) (.int .i64 p)), .int .i64 d] w' fun e w'' => ItR b g cap l w' x k' e w'') :
    Calls Try.prog 50 #[.pointer (some ⟨b, 0, none⟩), .int .i64 d] w fun e w' => ItR b g cap l w x k' e w' := by
  have HT : Hid _ := h
  have hbl := h.blt
  have hgl := h.lt
  have hdI : (d : Int) ≤ 32 := by omega
  unfold ItR at HC ⊢
  clear h hd
  go_enter Try.func50, Try.ntmps50
  go_wp2_with (first
    | (have hx := hs10; refine wpl_store rfl 106 _ _ rfl (w.heap.size) rfl _ rfl _ _ BR10 it_size rfl (all_one hD) ?_)
    | (have hx := hs9; go_at_call 61; refine (HC _ hs9).mono ?_; rintro e w10 ⟨⟨kd, nm, nms, vv, vw, vn, vr, vb, vi, vp, rfl, hD⟩, hs10, hk10⟩; have y10 := hk10.le; have K10 := K9.trans hk10; have BR10 := hk10.at_ BR9 (by omega); have BI10 := hk10.at_ BI9 (by omega))
    | (have hx := hs9; refine wpl_load rfl 106 _ rfl (w2.heap.size) rfl (itV (.int .i64 0) (.string ⟨#[]⟩) (.slice none 0 0) z6 z6 z6 (.string ⟨#[]⟩) (.slice none 0 0) (.slice none 0 0) (.int .i64 p)) _ _ BI9 Try.underlying106 rfl it_size ?_)
    | (have hx := hs8; go_at_call 30; refine (rTk hs8 ⟨#[102, 111, 114]⟩ true (k + 1) hfo rfl).mono ?_; rintro e w9 ⟨rfl, hs9, hk9⟩; have y9 := hk9.le; have K9 := K8.trans hk9; have BR9 := hk9.at_ BR8 (by omega); have BI9 := hk9.at_ BI8 (by omega))
    | (have hx := hs7; go_at_call 30; refine (rTk hs7 ⟨#[97, 108, 119, 97, 121, 115]⟩ false k hal rfl).mono ?_; rintro e w8 ⟨rfl, hs8, hk8⟩; have y8 := hk8.le; have K8 := K7.trans hk8; have BR8 := hk8.at_ BR7 (by omega); have BI8 := hk8.at_ BI7 (by omega))
    | (have hx := hs6; go_at_call 30; refine (rTk hs6 ⟨#[97, 115, 115, 105, 103, 110]⟩ false k has rfl).mono ?_; rintro e w7 ⟨rfl, hs7, hk7⟩; have y7 := hk7.le; have K7 := K6.trans hk7; have BR7 := hk7.at_ BR6 (by omega); have BI7 := hk7.at_ BI6 (by omega))
    | (have hx := hs5; go_at_call 30; refine (rTk hs5 ⟨#[108, 111, 99, 97, 108, 112, 97, 114, 97, 109]⟩ false k hlo rfl).mono ?_; rintro e w6 ⟨rfl, hs6, hk6⟩; have y6 := hk6.le; have K6 := K5.trans hk6; have BR6 := hk6.at_ BR5 (by omega); have BI6 := hk6.at_ BI5 (by omega))
    | (have hx := hs4; go_at_call 30; refine (rTk hs4 ⟨#[114, 101, 103]⟩ false k hre rfl).mono ?_; rintro e w5 ⟨rfl, hs5, hk5⟩; have y5 := hk5.le; have K5 := K4.trans hk5; have BR5 := hk5.at_ BR4 (by omega); have BI5 := hk5.at_ BI4 (by omega))
    | (have hx := hs3; go_at_call 30; refine (rTk hs3 ⟨#[119, 105, 114, 101]⟩ false k hwi rfl).mono ?_; rintro e w4 ⟨rfl, hs4, hk4⟩; have y4 := hk4.le; have K4 := K3.trans hk4; have BR4 := hk4.at_ BR3 (by omega); have BI4 := hk4.at_ BI3 (by omega))
    | (have hx := hs2; refine wpl_newG rfl 106 _ _ rfl _ rfl rfl (itV (.int .i64 0) (.string ⟨#[]⟩) (.slice none 0 0) z6 z6 z6 (.string ⟨#[]⟩) (.slice none 0 0) (.slice none 0 0) (.int .i64 p)) rfl _ _ it_size rfl (it0_one _) ?_; intro w3 hb3 BI3; have hs3 := hs2.below hb3; have hk3 : Kp b w2 w3 := Kp.of hb3; have y3 := hk3.le; have K3 := K2.trans hk3; have BR3 := hk3.at_ BR2 (by omega); have v3 := heap_lt BI3)
    | (have hx := hs2; refine wpl_build rfl 106 _ rfl #[(17, .int .i64 p)] (by kernel_rfl) _ (build_it0 _ _) ?_)
    | (have hx := hs1; go_at_call 27; refine (rPl hs1 p hp).mono ?_; rintro e w2 ⟨rfl, hs2, hk2⟩; have y2 := hk2.le; have K2 := K1.trans hk2; have BR2 := hk2.at_ BR1 (by omega))
    | (go_at_call 57; refine (rStarts_for (HT.out.below bxS) hnm hwi hre hlo has hal hfo).mono ?_; rintro e w1 ⟨rfl, hs1, hk1⟩; have y1 : w.heap.size + 1 ≤ w1.heap.size := (by have := hk1.le; simp at this; omega); have K1 := (Kp.of (b := b) bxS).trans hk1; have BR1 := hk1.at_ (heap_alloc_last w _) (by omega))
    | (go_at_call 18; refine (rGoing (g := g) (cap := cap) (l := l) (k := k) (by first | exact hs1 | exact (HT.out.below bxS))).mono ?_; rintro e w' ⟨rfl, hw⟩; have hw2 := hw.symm; subst hw2))
  refine bodyPost_ret (results_cell (r := 4) (t := 106) rfl w.heap.size rfl _ _ _ (setRow_at BR10) Try.underlying106 rfl it_size) rfl ?_
  exact ⟨⟨_, _, _, _, _, _, _, _, _, _, rfl, (hD.keep (Up.row (by unfold Ge; omega))).monoG (by omega)⟩, hs10.row (by omega) (by omega), K10.row (by omega)⟩
end Go.Proofs.Ytpnhefjiobnelaa
