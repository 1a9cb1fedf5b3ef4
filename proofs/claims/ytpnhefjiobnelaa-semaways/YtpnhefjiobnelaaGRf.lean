/- Texts NrP NrQ, joined: what each part says stands ahead of it. -/
import Derived.Test.YtpnhefjiobnelaaGRe
/- The reference's reader: assigns, always, wires. -/
namespace Go.Proofs.Ytpnhefjiobnelaa
open Go.RowKit Lg Rp
set_option linter.unusedVariables false
set_option linter.unusedSimpArgs false

theorem z6_one : ∀ u ∈ z6.l, u.oneCell' = true := (z6_dat default (fun _ => True)).one
theorem itV_one {kd nm nms : Value} {v wh nx : V6} {vr bd its p : Value} (h1 : kd.oneCell' = true) (h2 : nm.oneCell' = true) (h3 : nms.oneCell' = true) (hv : ∀ u ∈ v.l, u.oneCell' = true) (hw : ∀ u ∈ wh.l, u.oneCell' = true) (hn : ∀ u ∈ nx.l, u.oneCell' = true) (h4 : vr.oneCell' = true) (h5 : bd.oneCell' = true) (h6 : its.oneCell' = true) (h7 : p.oneCell' = true) :
    (itV kd nm nms v wh nx vr bd its p).all (·.oneCell') = true := by
  simp only [V6.l, List.mem_cons, List.not_mem_nil, or_false, forall_eq_or_imp, forall_eq] at hv hw hn
  obtain ⟨v0, v1, v2, v3, v4, v5⟩ := hv
  obtain ⟨w0, w1, w2, w3, w4, w5⟩ := hw
  obtain ⟨n0, n1, n2, n3, n4, n5⟩ := hn
  have c1 : (Value.bool false).oneCell' = true := rfl
  have c2 : (Value.int .i64 0).oneCell' = true := rfl
  have c3 : (Value.string ⟨#[]⟩).oneCell' = true := rfl
  have c4 : (Value.slice none 0 0).oneCell' = true := rfl
  rw [← Array.all_toList]
  simp only [itV, List.all_cons, List.all_nil, Bool.and_true, c1, c2, c3, c4, h1, h2, h3, h4, h5, h6, h7, v0, v1, v2, v3, v4, v5, w0, w1, w2, w3, w4, w5, n0, n1, n2, n3, n4, n5]
set_option maxRecDepth 100000 in
set_option maxHeartbeats 4000000 in
theorem rAssign {b g cap k k1 p : Nat} {l : List Tok} {w : World} {v : List Dc} (h : Rq b g cap l k w) (hsh : sw l k [35] = false) (hnm : nmK l k = true) (heq : sw l (k + 1) [61] = true)
    (HE : ∀ w', Rq b g cap l (k + 1 + 1) w' → Calls Try.prog 48 #[.pointer (some ⟨b, 0, none⟩), .int .i64 1] w' fun e w'' => ExR b g cap l w' v k1 e w'') (hsc : sw l k1 [59] = true) :
    Calls Try.prog 59 #[.pointer (some ⟨b, 0, none⟩), .agg (itV (.int .i64 0) (.string ⟨#[]⟩) (.slice none 0 0) z6 z6 z6 (.string ⟨#[]⟩) (.slice none 0 0) (.slice none 0 0) (.int .i64 p))] w fun e w' => ItR b g cap l w (itD 4 (tk l k).x 0 [] v zX zX [] 0 [] 0 [] p) (k1 + 1) e w' := by
  have HT : Hid _ := h
  have hbl := h.blt
  have hgl := h.lt
  unfold ExR at HE
  obtain ⟨sx, hsx⟩ : ∃ sx, S (tk l k).x = sx := ⟨_, rfl⟩
  have HX : Hid _ := hsx
  clear h
  unfold ItR
  go_enter Try.func59, Try.ntmps59
  go_wp2_with (first
    | (have hx := hs7; refine wpl_store rfl 106 _ _ rfl (w.heap.size + 1) rfl (itV (.int .i64 4) (.string sx) (.slice none 0 0) ⟨a0, a1, a2, a3, a4, a5⟩ z6 z6 (.string ⟨#[]⟩) (.slice none 0 0) (.slice none 0 0) (.int .i64 p)) rfl _ _ BR7 it_size rfl (itV_one rfl rfl rfl ha.one z6_one z6_one rfl rfl rfl rfl) ?_)
    | (have hx := hs7; refine wpl_load rfl 106 _ rfl (w.heap.size) rfl (itV (.int .i64 4) (.string sx) (.slice none 0 0) ⟨a0, a1, a2, a3, a4, a5⟩ z6 z6 (.string ⟨#[]⟩) (.slice none 0 0) (.slice none 0 0) (.int .i64 p)) _ _ BI7 Try.underlying106 rfl it_size ?_)
    | (have hx := hs6; go_at_call 28; refine (rMust hs6 ⟨#[59]⟩ hsc).mono ?_; rintro e w7 ⟨rfl, hs7, hk7⟩; have y7 := hk7.le; have K7 := K6.trans hk7; have BI7 := hk7.at_ BI6 (by omega); have BR7 := hk7.at_ BR6 (by omega); have Da_7 := Da_6.kp hk7 (by omega))
    | (have hx := hs5; refine wpl_storeO rfl 81 _ _ rfl (w.heap.size) 23 rfl (.agg #[a0, a1, a2, a3, a4, a5]) rfl _ _ BI5 xr_size (Nat.le_of_ble_eq_true rfl) (all6 ha) (itV (.int .i64 4) (.string sx) (.slice none 0 0) ⟨a0, a1, a2, a3, a4, a5⟩ z6 z6 (.string ⟨#[]⟩) (.slice none 0 0) (.slice none 0 0) (.int .i64 p)) (by kernel_rfl) ?_; intro w6 o6 BI6; have x6 := heap_lt BI5; have hs6 := hs5.oth o6 (by omega) (by omega); have K6 := K5.oth o6 (by omega); have y6 := Nat.le_of_eq o6.size; have u6 := Nat.le_of_eq o6.size.symm; have BR6 := (o6.block ((w.heap.size + 1)) (by omega)).trans BR5; have Da_6 := ha.oth o6 (by omega))
    | (have hx := hs4; go_at_call 48; refine (HE _ hs4).mono ?_; rintro e w5 ⟨⟨a0, a1, a2, a3, a4, a5, rfl, ha⟩, hs5, hk5⟩; have y5 := hk5.le; have K5 := K4.trans hk5; have BI5 := hk5.at_ BI4 (by omega); have BR5 := hk5.at_ BR4 (by omega))
    | (have hx := hs3; go_at_call 28; refine (rMust hs3 ⟨#[61]⟩ heq).mono ?_; rintro e w4 ⟨rfl, hs4, hk4⟩; have y4 := hk4.le; have K4 := K3.trans hk4; have BI4 := hk4.at_ BI3 (by omega); have BR4 := hk4.at_ BR3 (by omega))
    | (have hx := hs2; refine wpl_storeO rfl 9 _ _ rfl (w.heap.size) 1 rfl (.string sx) rfl _ _ BI2 str_size (Nat.le_of_ble_eq_true rfl) (oneT _) (itV (.int .i64 4) (.string sx) (.slice none 0 0) z6 z6 z6 (.string ⟨#[]⟩) (.slice none 0 0) (.slice none 0 0) (.int .i64 p)) (by kernel_rfl) ?_; intro w3 o3 BI3; have x3 := heap_lt BI2; have hs3 := hs2.oth o3 (by omega) (by omega); have K3 := K2.oth o3 (by omega); have y3 := Nat.le_of_eq o3.size; have u3 := Nat.le_of_eq o3.size.symm; have BR3 := (o3.block ((w.heap.size + 1)) (by omega)).trans BR2)
    | (have hx := hs1; go_at_call 29; refine (rNm hs1 hnm sx hsx).mono ?_; rintro e w2 ⟨rfl, hs2, hk2⟩; have y2 := hk2.le; have K2 := K1.trans hk2; have BI2 := hk2.at_ BI1 (by omega); have BR2 := hk2.at_ BR1 (by omega))
    | (go_at_call 30; refine (rTk (HT.out.below (bel bxS bxS)) ⟨#[35]⟩ false k hsh rfl).mono ?_; rintro e w1 ⟨rfl, hs1, hk1⟩; have y1 : w.heap.size + 2 ≤ w1.heap.size := (by have := hk1.le; simp at this; omega); have K1 := (Kp.of (b := b) (bel bxS bxS)).trans hk1; have BI1 := hk1.at_ (last1 w _ _) (by omega); have BR1 := hk1.at_ (last2 w _ _) (by omega)))
  have hsx2 := HX.out
  subst hsx2
  refine bodyPost_ret (results_cell (r := 4) (t := 106) rfl (w.heap.size + 1) rfl _ _ _ (setRow_at BR7) Try.underlying106 rfl it_size) rfl ?_
  have hD := itV_dat (w := w7) (N := Ge (w.heap.size + 2)) (kd := 4) (nm := (tk l k).x) (vr := []) (p := p) (v := ⟨a0, a1, a2, a3, a4, a5⟩) (wh := z6) (nx := z6) (.s0 .nil) (Da_7.monoG (B' := w.heap.size + 2) (by omega)) (z6_dat _ _) (z6_dat _ _) (.s0 .nil) (.s0 .nil)
  exact ⟨⟨_, _, _, _, _, _, _, _, _, _, rfl, (hD.keep (Up.row (by unfold Ge; omega))).monoG (by omega)⟩, hs7.row (by omega) (by omega), K7.row (by omega)⟩
set_option maxRecDepth 100000 in
set_option maxHeartbeats 4000000 in
theorem rAlways {b g cap k k1 p nb : Nat} {l : List Tok} {w : World} {bd : List Dc} (h : Rq b g cap l k w) (hat : sw l k [64] = true) (hop : sw l (k + 1) [40] = true) (hst : sw l (k + 1 + 1) [42] = true) (hsh : sw l (k + 1 + 1 + 1) [41] = true)
    (HS : ∀ w', Rq b g cap l (k + 1 + 1 + 1 + 1) w' → Calls Try.prog 75 #[.pointer (some ⟨b, 0, none⟩), .int .i64 1] w' fun e w'' => SlR b g cap l w' nb bd k1 e w'') :
    Calls Try.prog 60 #[.pointer (some ⟨b, 0, none⟩), .agg (itV (.int .i64 0) (.string ⟨#[]⟩) (.slice none 0 0) z6 z6 z6 (.string ⟨#[]⟩) (.slice none 0 0) (.slice none 0 0) (.int .i64 p))] w fun e w' => ItR b g cap l w (itD 5 [] 0 [] zX zX zX [] nb bd 0 [] p) k1 e w' := by
  have HT : Hid _ := h
  have hbl := h.blt
  have hgl := h.lt
  unfold SlR at HS
  clear h
  unfold ItR
  go_enter Try.func60, Try.ntmps60
  go_wp2_with (first
    | (have hx := hs7; refine wpl_store rfl 106 _ _ rfl (w.heap.size + 1) rfl (itV (.int .i64 5) (.string ⟨#[]⟩) (.slice none 0 0) z6 z6 z6 (.string ⟨#[]⟩) (.slice mo nb mc) (.slice none 0 0) (.int .i64 p)) rfl _ _ BR7 it_size rfl (itV_one rfl rfl rfl z6_one z6_one z6_one rfl rfl rfl rfl) ?_)
    | (have hx := hs7; refine wpl_load rfl 106 _ rfl (w.heap.size) rfl (itV (.int .i64 5) (.string ⟨#[]⟩) (.slice none 0 0) z6 z6 z6 (.string ⟨#[]⟩) (.slice mo nb mc) (.slice none 0 0) (.int .i64 p)) _ _ BI7 Try.underlying106 rfl it_size ?_)
    | (have hx := hs6; refine wpl_storeO rfl 104 _ _ rfl (w.heap.size) 45 rfl (.slice mo nb mc) rfl _ _ BI6 sl_size (Nat.le_of_ble_eq_true rfl) (oneS _ _ _) (itV (.int .i64 5) (.string ⟨#[]⟩) (.slice none 0 0) z6 z6 z6 (.string ⟨#[]⟩) (.slice mo nb mc) (.slice none 0 0) (.int .i64 p)) (by kernel_rfl) ?_; intro w7 o7 BI7; have x7 := heap_lt BI6; have hs7 := hs6.oth o7 (by omega) (by omega); have K7 := K6.oth o7 (by omega); have y7 := Nat.le_of_eq o7.size; have u7 := Nat.le_of_eq o7.size.symm; have BR7 := (o7.block ((w.heap.size + 1)) (by omega)).trans BR6; have Dm_7 := hm.oth o7 (by omega))
    | (have hx := hs5; go_at_call 75; refine (HS _ hs5).mono ?_; rintro e w6 ⟨⟨mo, mc, rfl, hm⟩, hs6, hk6⟩; have y6 := hk6.le; have K6 := K5.trans hk6; have BI6 := hk6.at_ BI5 (by omega); have BR6 := hk6.at_ BR5 (by omega))
    | (have hx := hs4; go_at_call 28; refine (rMust hs4 ⟨#[41]⟩ hsh).mono ?_; rintro e w5 ⟨rfl, hs5, hk5⟩; have y5 := hk5.le; have K5 := K4.trans hk5; have BI5 := hk5.at_ BI4 (by omega); have BR5 := hk5.at_ BR4 (by omega))
    | (have hx := hs3; go_at_call 30; refine (rTk hs3 ⟨#[42]⟩ true (k + 1 + 1 + 1) hst rfl).mono ?_; rintro e w4 ⟨rfl, hs4, hk4⟩; have y4 := hk4.le; have K4 := K3.trans hk4; have BI4 := hk4.at_ BI3 (by omega); have BR4 := hk4.at_ BR3 (by omega))
    | (have hx := hs2; refine wpl_storeO rfl 3 _ _ rfl (w.heap.size) 0 rfl (.int .i64 5) rfl _ _ BI2 in_size (Nat.le_of_ble_eq_true rfl) (oneI _) (itV (.int .i64 5) (.string ⟨#[]⟩) (.slice none 0 0) z6 z6 z6 (.string ⟨#[]⟩) (.slice none 0 0) (.slice none 0 0) (.int .i64 p)) (by kernel_rfl) ?_; intro w3 o3 BI3; have x3 := heap_lt BI2; have hs3 := hs2.oth o3 (by omega) (by omega); have K3 := K2.oth o3 (by omega); have y3 := Nat.le_of_eq o3.size; have u3 := Nat.le_of_eq o3.size.symm; have BR3 := (o3.block ((w.heap.size + 1)) (by omega)).trans BR2)
    | (have hx := hs1; go_at_call 28; refine (rMust hs1 ⟨#[40]⟩ hop).mono ?_; rintro e w2 ⟨rfl, hs2, hk2⟩; have y2 := hk2.le; have K2 := K1.trans hk2; have BI2 := hk2.at_ BI1 (by omega); have BR2 := hk2.at_ BR1 (by omega))
    | (go_at_call 28; refine (rMust (HT.out.below (bel bxS bxS)) ⟨#[64]⟩ hat).mono ?_; rintro e w1 ⟨rfl, hs1, hk1⟩; have y1 : w.heap.size + 2 ≤ w1.heap.size := (by have := hk1.le; simp at this; omega); have K1 := (Kp.of (b := b) (bel bxS bxS)).trans hk1; have BI1 := hk1.at_ (last1 w _ _) (by omega); have BR1 := hk1.at_ (last2 w _ _) (by omega)))
  refine bodyPost_ret (results_cell (r := 4) (t := 106) rfl (w.heap.size + 1) rfl _ _ _ (setRow_at BR7) Try.underlying106 rfl it_size) rfl ?_
  have hD := itV_dat (w := w7) (N := Ge (w.heap.size + 2)) (kd := 5) (nm := []) (vr := []) (p := p) (v := z6) (wh := z6) (nx := z6) (.s0 .nil) (z6_dat _ _) (z6_dat _ _) (z6_dat _ _) (Dm_7.monoG (B' := w.heap.size + 2) (by omega)) (.s0 .nil)
  exact ⟨⟨_, _, _, _, _, _, _, _, _, _, rfl, (hD.keep (Up.row (by unfold Ge; omega))).monoG (by omega)⟩, hs7.row (by omega) (by omega), K7.row (by omega)⟩
end Go.Proofs.Ytpnhefjiobnelaa

/- The reference's reader: wires; what an item begins with. -/
namespace Go.Proofs.Ytpnhefjiobnelaa
open Go.RowKit Lg Rp
set_option linter.unusedVariables false
set_option linter.unusedSimpArgs false

set_option maxRecDepth 100000 in
set_option maxHeartbeats 2000000 in
theorem rSpanN {b g cap k : Nat} {l : List Tok} {w : World} (h : Rq b g cap l k w) (hx : sw l k [91] = false) :
    Calls Try.prog 49 #[.pointer (some ⟨b, 0, none⟩)] w fun e w' => e = .returned (.tuple #[.bool false, .agg #[.int .i64 0, .string ⟨#[]⟩, .string ⟨#[]⟩, .bool false, .slice none 0 0, .int .i64 0], .agg #[.int .i64 0, .string ⟨#[]⟩, .string ⟨#[]⟩, .bool false, .slice none 0 0, .int .i64 0]]) ∧ Rq b g cap l k w' ∧ Kp b w w' := by
  have HT : Hid _ := h
  have HA := fun w' (hb : Below w.heap.size w w') => rTakesN (h.below hb) ⟨#[91]⟩ hx
  have hbl := h.blt
  clear hx h
  go_enter Try.func49, Try.ntmps49
  go_wp2_with (first
    | (go_at_call 30; refine (HA _ (bel bxS bxS)).mono ?_; rintro e w1 ⟨rfl, hb1⟩; obtain ⟨B0, B1⟩ := box2 (bb := b) (R := w.heap.size) (Kp.of hb1) hbl rfl; obtain ⟨q0, q1, q2, q3, q4, q5, qf, ql⟩ := cells6' B0; obtain ⟨s0, s1, s2, s3, s4, s5, sf, sl⟩ := cells6' B1))
  refine bodyPost_ret (v := .tuple #[.bool false, .agg #[.int .i64 0, .string ⟨#[]⟩, .string ⟨#[]⟩, .bool false, .slice none 0 0, .int .i64 0], .agg #[.int .i64 0, .string ⟨#[]⟩, .string ⟨#[]⟩, .bool false, .slice none 0 0, .int .i64 0]]) (by simp [results, Try.results49, go_sem, q0, q1, q2, q3, q4, q5, qf, ql, s0, s1, s2, s3, s4, s5, sf, sl]) rfl ?_
  have hb2 := bel (bel bxS bxS) hb1
  exact ⟨rfl, HT.out.below (six6 hb2 (Nat.le_refl _) (Nat.le_succ _)), Kp.of (six6 hb2 (Nat.le_refl _) (Nat.le_succ _))⟩
theorem slice_str (w : World) (s : ByteArray) : (Instr.buildSlice 99 1 #[(0, .string s)]).run Try.prog w = .ok (.slice (some ⟨w.heap.size, 0, none⟩) 1 1) (w.alloc (.cells #[.string s] 9)) := by kernel_rfl
set_option maxRecDepth 100000 in
set_option maxHeartbeats 4000000 in
theorem rWire {b g cap k p : Nat} {l : List Tok} {w : World} (h : Rq b g cap l k w) (hop : sw l k [91] = false) (hnm : nmK l k = true) (hco : sw l (k + 1) [44] = false) (hsc : sw l (k + 1) [59] = true) :
    Calls Try.prog 58 #[.pointer (some ⟨b, 0, none⟩), .agg (itV (.int .i64 0) (.string ⟨#[]⟩) (.slice none 0 0) z6 z6 z6 (.string ⟨#[]⟩) (.slice none 0 0) (.slice none 0 0) (.int .i64 p)), .int .i64 1] w fun e w' => ItR b g cap l w (itD 1 [] 1 [.t (tk l k).x] zX zX zX [] 0 [] 0 [] p) (k + 1 + 1) e w' := by
  have HT : Hid _ := h
  have hbl := h.blt
  have hgl := h.lt
  obtain ⟨sx, hsx⟩ : ∃ sx, S (tk l k).x = sx := ⟨_, rfl⟩
  have HX : Hid _ := hsx
  clear h
  unfold ItR
  go_enter Try.func58, Try.ntmps58
  go_wp2_with (first
    | (have hx := hs6; refine wpl_storeO rfl 99 _ _ rfl (w.heap.size) 2 rfl (.slice (some ⟨w5.heap.size, 0, none⟩) 1 1) rfl _ _ BI6 sstr_size (Nat.le_of_ble_eq_true rfl) (oneS _ _ _) (itV (.int .i64 1) (.string ⟨#[]⟩) (.slice (some ⟨w5.heap.size, 0, none⟩) 1 1) z6 z6 z6 (.string ⟨#[]⟩) (.slice none 0 0) (.slice none 0 0) (.int .i64 p)) (by kernel_rfl) ?_; intro w7 o7 BI7; have x7 := heap_lt BI6; have hs7 := hs6.oth o7 (by omega) (by omega); have K7 := K6.oth o7 (by omega); have y7 := Nat.le_of_eq o7.size; have u7 := Nat.le_of_eq o7.size.symm; have BR7 := (o7.block ((w.heap.size + 1)) (by omega)).trans BR6; have BN7 := (o7.block (w5.heap.size) (by omega)).trans C6)
    | (have hx := hs5; refine wpl_sliceG rfl 99 1 _ rfl #[(0, .string sx)] (by kernel_rfl) #[.string sx] 9 1 (slice_str _ _) ?_; intro w6 hb6 C6; have hs6 := hs5.below hb6; have hk6 : Kp b w5 w6 := Kp.of hb6; have y6 := hk6.le; have K6 := K5.trans hk6; have BI6 := hk6.at_ BI5 (by omega); have BR6 := hk6.at_ BR5 (by omega); have v6 := heap_lt C6)
    | (have hx := hs4; go_at_call 29; refine (rNm hs4 hnm sx hsx).mono ?_; rintro e w5 ⟨rfl, hs5, hk5⟩; have y5 := hk5.le; have K5 := K4.trans hk5; have BI5 := hk5.at_ BI4 (by omega); have BR5 := hk5.at_ BR4 (by omega))
    | (have hx := hs3; refine wpl_storeO rfl 81 _ _ rfl (w.heap.size) 10 rfl (.agg #[.int .i64 0, .string ⟨#[]⟩, .string ⟨#[]⟩, .bool false, .slice none 0 0, .int .i64 0]) rfl _ _ BI3 xr_size (Nat.le_of_ble_eq_true rfl) zE_one (itV (.int .i64 1) (.string ⟨#[]⟩) (.slice none 0 0) z6 z6 z6 (.string ⟨#[]⟩) (.slice none 0 0) (.slice none 0 0) (.int .i64 p)) (by kernel_rfl) ?_; intro w4 o4 BI4; have x4 := heap_lt BI3; have hs4 := hs3.oth o4 (by omega) (by omega); have K4 := K3.oth o4 (by omega); have y4 := Nat.le_of_eq o4.size; have u4 := Nat.le_of_eq o4.size.symm; have BR4 := (o4.block ((w.heap.size + 1)) (by omega)).trans BR3)
    | (have hx := hs2; refine wpl_storeO rfl 81 _ _ rfl (w.heap.size) 4 rfl (.agg #[.int .i64 0, .string ⟨#[]⟩, .string ⟨#[]⟩, .bool false, .slice none 0 0, .int .i64 0]) rfl _ _ BI2 xr_size (Nat.le_of_ble_eq_true rfl) zE_one (itV (.int .i64 1) (.string ⟨#[]⟩) (.slice none 0 0) z6 z6 z6 (.string ⟨#[]⟩) (.slice none 0 0) (.slice none 0 0) (.int .i64 p)) (by kernel_rfl) ?_; intro w3 o3 BI3; have x3 := heap_lt BI2; have hs3 := hs2.oth o3 (by omega) (by omega); have K3 := K2.oth o3 (by omega); have y3 := Nat.le_of_eq o3.size; have u3 := Nat.le_of_eq o3.size.symm; have BR3 := (o3.block ((w.heap.size + 1)) (by omega)).trans BR2)
    | (have hx := hs1; refine wpl_storeO rfl 4 _ _ rfl (w.heap.size) 3 rfl (.bool false) rfl _ _ BI1 boo_size (Nat.le_of_ble_eq_true rfl) (oneB _) (itV (.int .i64 1) (.string ⟨#[]⟩) (.slice none 0 0) z6 z6 z6 (.string ⟨#[]⟩) (.slice none 0 0) (.slice none 0 0) (.int .i64 p)) (by kernel_rfl) ?_; intro w2 o2 BI2; have x2 := heap_lt BI1; have hs2 := hs1.oth o2 (by omega) (by omega); have K2 := K1.oth o2 (by omega); have y2 := Nat.le_of_eq o2.size; have u2 := Nat.le_of_eq o2.size.symm; have BR2 := (o2.block ((w.heap.size + 1)) (by omega)).trans BR1)
    | (go_at_call 49; refine (rSpanN (HT.out.below (bel bxS bxS)) hop).mono ?_; rintro e w1 ⟨rfl, hs1, hk1⟩; have y1 : w.heap.size + 2 ≤ w1.heap.size := (by have := hk1.le; simp at this; omega); have K1 := (Kp.of (b := b) (bel bxS bxS)).trans hk1; have BI1 := hk1.at_ (last1 w _ _) (by omega); have BR1 := hk1.at_ (last2 w _ _) (by omega)))
  try simp only [Act.put]
  go_loopw [22] (fun _ wr => ∃ NB : Nat, Hid (w.heap.size + 2 ≤ NB) ∧ Hid (Rq b g cap l (k + 1) wr) ∧ Hid (Kp b w wr) ∧ Hid (wr.heap[w.heap.size]? = some (.cells (itV (.int .i64 1) (.string ⟨#[]⟩) (.slice (some ⟨NB, 0, none⟩) 1 1) z6 z6 z6 (.string ⟨#[]⟩) (.slice none 0 0) (.slice none 0 0) (.int .i64 p)) 106 (0, 0))) ∧ Hid (∃ z, wr.heap[w.heap.size + 1]? = some (.cells z 106 (0, 0)) ∧ z.size = 48) ∧ Hid (wr.heap[NB]? = some (.cells #[.string sx] 9 (0, 0)))) (fun _ wr => l.length - atQ b wr)
  case atStart => exact ⟨w5.heap.size, (by show w.heap.size + 2 ≤ w5.heap.size; omega), hs7, K7, BI7, ⟨_, BR7, rfl⟩, BN7⟩
  case round =>
    obtain ⟨NB, HNB, HST, HKP, HBI, HBR0, HBN⟩ := hrel
    obtain ⟨zz, hzz, hz48⟩ := HBR0.out
    have HBR : Hid _ := hzz
    have y20 := HKP.out.size
    have hNB : w.heap.size + 2 ≤ NB := HNB.out
    clear HBR0 hzz
    go_wp2_with (first
      | (have hx := hs22; refine wpl_store rfl 106 _ _ rfl (w.heap.size + 1) rfl (itV (.int .i64 1) (.string ⟨#[]⟩) (.slice (some ⟨NB, 0, none⟩) 1 1) z6 z6 z6 (.string ⟨#[]⟩) (.slice none 0 0) (.slice none 0 0) (.int .i64 p)) rfl _ _ BR22 it_size hz48 (itV_one rfl rfl rfl z6_one z6_one z6_one rfl rfl rfl rfl) ?_)
      | (have hx := hs22; refine wpl_load rfl 106 _ rfl (w.heap.size) rfl (itV (.int .i64 1) (.string ⟨#[]⟩) (.slice (some ⟨NB, 0, none⟩) 1 1) z6 z6 z6 (.string ⟨#[]⟩) (.slice none 0 0) (.slice none 0 0) (.int .i64 p)) _ _ BI22 Try.underlying106 rfl it_size ?_)
      | (have hx := hs21; go_at_call 28; refine (rMust hs21 ⟨#[59]⟩ hsc).mono ?_; rintro e w22 ⟨rfl, hs22, hk22⟩; have y22 := hk22.le; have K22 := K21.trans hk22; have BI22 := hk22.at_ BI21 (by omega); have BR22 := hk22.at_ BR21 (by omega); have BN22 := hk22.at_ BN21 (by omega))
      | (go_at_call 30; refine (rTk HST.out ⟨#[44]⟩ false (k + 1) hco rfl).mono ?_; rintro e w21 ⟨rfl, hs21, hk21⟩; have y21 := hk21.le; have K21 := HKP.out.trans hk21; have BI21 := hk21.at_ HBI.out (by omega); have BR21 := hk21.at_ HBR.out (by omega); have BN21 := hk21.at_ HBN.out (by omega)))
    have hsx2 := HX.out
    subst hsx2
    refine bodyPost_ret (results_cell (r := 6) (t := 106) rfl (w.heap.size + 1) rfl _ _ _ (setRow_at BR22) Try.underlying106 rfl it_size) rfl ?_
    have hD := itV_dat (w := w22) (N := Ge (w.heap.size + 2)) (kd := 1) (nm := []) (vr := []) (p := p) (v := z6) (wh := z6) (nx := z6) (.s (by unfold Ge; omega) (heap_lt BN22) (Nat.le_refl 1) (us := [.string (S (tk l k).x)]) (fun j u hu => by rw [Lib.cell_of_heap BN22]; simpa using hu) (.t .nil) .nil) (z6_dat _ _) (z6_dat _ _) (z6_dat _ _) (.s0 .nil) (.s0 .nil)
    exact ⟨⟨_, _, _, _, _, _, _, _, _, _, rfl, (hD.keep (Up.row (by unfold Ge; omega))).monoG (by omega)⟩, hs22.row (by omega) (by omega), K22.row (by omega)⟩
set_option maxRecDepth 100000 in
set_option maxHeartbeats 2000000 in
theorem rStarts_wire {b g cap k : Nat} {l : List Tok} {w : World} (h : Rq b g cap l k w) (hnm : nmK l k = false) (hwi : sw l k wWire = true) :
    Calls Try.prog 57 #[.pointer (some ⟨b, 0, none⟩)] w fun e w' => e = .returned (.bool true) ∧ Rq b g cap l k w' ∧ Kp b w w' := by
  have HT : Hid _ := h
  have hbl := h.blt
  have hgl := h.lt
  clear h
  go_enter Try.func57, Try.ntmps57
  go_wp2_with (first
    | (have hx := hs1; go_at_call 47; refine (rSe hs1 ⟨#[119, 105, 114, 101]⟩ true hwi).mono ?_; rintro e w2 ⟨rfl, hs2, hk2⟩; have y2 := hk2.le; have K2 := K1.trans hk2)
    | (go_at_call 46; refine (rNd HT.out false hnm).mono ?_; rintro e w1 ⟨rfl, hs1, hk1⟩; have y1 := hk1.le; have K1 := (Kp.refl b w).trans hk1))
  go_ret
  exact ⟨rfl, hs2, K2⟩
set_option maxRecDepth 100000 in
set_option maxHeartbeats 2000000 in
theorem rStarts_assign {b g cap k : Nat} {l : List Tok} {w : World} (h : Rq b g cap l k w) (hnm : nmK l k = false) (hwi : sw l k wWire = false) (hre : sw l k wReg = false) (hlo : sw l k wLocal = false) (has : sw l k wAssign = true) :
    Calls Try.prog 57 #[.pointer (some ⟨b, 0, none⟩)] w fun e w' => e = .returned (.bool true) ∧ Rq b g cap l k w' ∧ Kp b w w' := by
  have HT : Hid _ := h
  have hbl := h.blt
  have hgl := h.lt
  clear h
  go_enter Try.func57, Try.ntmps57
  go_wp2_with (first
    | (have hx := hs4; go_at_call 47; refine (rSe hs4 ⟨#[97, 115, 115, 105, 103, 110]⟩ true has).mono ?_; rintro e w5 ⟨rfl, hs5, hk5⟩; have y5 := hk5.le; have K5 := K4.trans hk5)
    | (have hx := hs3; go_at_call 47; refine (rSe hs3 ⟨#[108, 111, 99, 97, 108, 112, 97, 114, 97, 109]⟩ false hlo).mono ?_; rintro e w4 ⟨rfl, hs4, hk4⟩; have y4 := hk4.le; have K4 := K3.trans hk4)
    | (have hx := hs2; go_at_call 47; refine (rSe hs2 ⟨#[114, 101, 103]⟩ false hre).mono ?_; rintro e w3 ⟨rfl, hs3, hk3⟩; have y3 := hk3.le; have K3 := K2.trans hk3)
    | (have hx := hs1; go_at_call 47; refine (rSe hs1 ⟨#[119, 105, 114, 101]⟩ false hwi).mono ?_; rintro e w2 ⟨rfl, hs2, hk2⟩; have y2 := hk2.le; have K2 := K1.trans hk2)
    | (go_at_call 46; refine (rNd HT.out false hnm).mono ?_; rintro e w1 ⟨rfl, hs1, hk1⟩; have y1 := hk1.le; have K1 := (Kp.refl b w).trans hk1))
  go_ret
  exact ⟨rfl, hs5, K5⟩
set_option maxRecDepth 100000 in
set_option maxHeartbeats 2000000 in
theorem rStarts_always {b g cap k : Nat} {l : List Tok} {w : World} (h : Rq b g cap l k w) (hnm : nmK l k = false) (hwi : sw l k wWire = false) (hre : sw l k wReg = false) (hlo : sw l k wLocal = false) (has : sw l k wAssign = false) (hal : sw l k wAlways = true) :
    Calls Try.prog 57 #[.pointer (some ⟨b, 0, none⟩)] w fun e w' => e = .returned (.bool true) ∧ Rq b g cap l k w' ∧ Kp b w w' := by
  have HT : Hid _ := h
  have hbl := h.blt
  have hgl := h.lt
  clear h
  go_enter Try.func57, Try.ntmps57
  go_wp2_with (first
    | (have hx := hs5; go_at_call 47; refine (rSe hs5 ⟨#[97, 108, 119, 97, 121, 115]⟩ true hal).mono ?_; rintro e w6 ⟨rfl, hs6, hk6⟩; have y6 := hk6.le; have K6 := K5.trans hk6)
    | (have hx := hs4; go_at_call 47; refine (rSe hs4 ⟨#[97, 115, 115, 105, 103, 110]⟩ false has).mono ?_; rintro e w5 ⟨rfl, hs5, hk5⟩; have y5 := hk5.le; have K5 := K4.trans hk5)
    | (have hx := hs3; go_at_call 47; refine (rSe hs3 ⟨#[108, 111, 99, 97, 108, 112, 97, 114, 97, 109]⟩ false hlo).mono ?_; rintro e w4 ⟨rfl, hs4, hk4⟩; have y4 := hk4.le; have K4 := K3.trans hk4)
    | (have hx := hs2; go_at_call 47; refine (rSe hs2 ⟨#[114, 101, 103]⟩ false hre).mono ?_; rintro e w3 ⟨rfl, hs3, hk3⟩; have y3 := hk3.le; have K3 := K2.trans hk3)
    | (have hx := hs1; go_at_call 47; refine (rSe hs1 ⟨#[119, 105, 114, 101]⟩ false hwi).mono ?_; rintro e w2 ⟨rfl, hs2, hk2⟩; have y2 := hk2.le; have K2 := K1.trans hk2)
    | (go_at_call 46; refine (rNd HT.out false hnm).mono ?_; rintro e w1 ⟨rfl, hs1, hk1⟩; have y1 := hk1.le; have K1 := (Kp.refl b w).trans hk1))
  go_ret
  exact ⟨rfl, hs6, K6⟩
set_option maxRecDepth 100000 in
set_option maxHeartbeats 2000000 in
theorem rStarts_for {b g cap k : Nat} {l : List Tok} {w : World} (h : Rq b g cap l k w) (hnm : nmK l k = false) (hwi : sw l k wWire = false) (hre : sw l k wReg = false) (hlo : sw l k wLocal = false) (has : sw l k wAssign = false) (hal : sw l k wAlways = false) (hfo : sw l k wFor = true) :
    Calls Try.prog 57 #[.pointer (some ⟨b, 0, none⟩)] w fun e w' => e = .returned (.bool true) ∧ Rq b g cap l k w' ∧ Kp b w w' := by
  have HT : Hid _ := h
  have hbl := h.blt
  have hgl := h.lt
  clear h
  go_enter Try.func57, Try.ntmps57
  go_wp2_with (first
    | (have hx := hs6; go_at_call 47; refine (rSe hs6 ⟨#[102, 111, 114]⟩ true hfo).mono ?_; rintro e w7 ⟨rfl, hs7, hk7⟩; have y7 := hk7.le; have K7 := K6.trans hk7)
    | (have hx := hs5; go_at_call 47; refine (rSe hs5 ⟨#[97, 108, 119, 97, 121, 115]⟩ false hal).mono ?_; rintro e w6 ⟨rfl, hs6, hk6⟩; have y6 := hk6.le; have K6 := K5.trans hk6)
    | (have hx := hs4; go_at_call 47; refine (rSe hs4 ⟨#[97, 115, 115, 105, 103, 110]⟩ false has).mono ?_; rintro e w5 ⟨rfl, hs5, hk5⟩; have y5 := hk5.le; have K5 := K4.trans hk5)
    | (have hx := hs3; go_at_call 47; refine (rSe hs3 ⟨#[108, 111, 99, 97, 108, 112, 97, 114, 97, 109]⟩ false hlo).mono ?_; rintro e w4 ⟨rfl, hs4, hk4⟩; have y4 := hk4.le; have K4 := K3.trans hk4)
    | (have hx := hs2; go_at_call 47; refine (rSe hs2 ⟨#[114, 101, 103]⟩ false hre).mono ?_; rintro e w3 ⟨rfl, hs3, hk3⟩; have y3 := hk3.le; have K3 := K2.trans hk3)
    | (have hx := hs1; go_at_call 47; refine (rSe hs1 ⟨#[119, 105, 114, 101]⟩ false hwi).mono ?_; rintro e w2 ⟨rfl, hs2, hk2⟩; have y2 := hk2.le; have K2 := K1.trans hk2)
    | (go_at_call 46; refine (rNd HT.out false hnm).mono ?_; rintro e w1 ⟨rfl, hs1, hk1⟩; have y1 := hk1.le; have K1 := (Kp.refl b w).trans hk1))
  go_ret
  exact ⟨rfl, hs7, K7⟩
end Go.Proofs.Ytpnhefjiobnelaa
