/- The reference's reader: ports. -/
import Derived.Test.YtpnhefjiobnelaaNrT
namespace Go.Proofs.Ytpnhefjiobnelaa
open Go.RowKit Lg Rp
set_option linter.unusedVariables false
set_option linter.unusedSimpArgs false

/-- what reading a port comes to -/
def PoR (b g cap : Nat) (l : List Tok) (w : World) (x : List Dc) (k : Nat) (e : Ending) (w' : World) : Prop :=
  (∃ (o r : Bool) (nm : ByteArray) (p : Nat), e = .returned (.agg (poC (.bool o) (.bool r) (.string nm) (.int .i64 p))) ∧ DAt w' (Ge w.heap.size) x (poC (.bool o) (.bool r) (.string nm) (.int .i64 p)).toList) ∧ Rq b g cap l k w' ∧ Kp b w w'
theorem poC_dat (w : World) (N : Nat → Prop) (o r : Bool) (nm : List UInt8) (p : Nat) : DAt w N (poD o r nm p) (poC (.bool o) (.bool r) (.string (S nm)) (.int .i64 p)).toList := by
  unfold poD
  simp only [List.append_assoc]
  exact .b (.b (.b ((z6_dat w N).app ((z6_dat w N).app (.t (.i .nil))))))
theorem po_size : (Try.prog.info? 83).map (·.size) = some 17 := by kernel_rfl
theorem slice_po (w : World) (o r nm p : Value) : (Instr.buildSlice 56 1 #[(0, .agg (poC o r nm p))]).run Try.prog w = .ok (.slice (some ⟨w.heap.size, 0, none⟩) 1 1) (w.alloc (.cells (poC o r nm p) 83)) := by kernel_rfl
theorem step_bsliceG {P : Program} {ops : Array Oper} {o : Oper} {a : Act} {w : World} {K : Act → World → Prop} {Q : Exit → Act → World → Prop} {E : Prop}
    (hg : o.guard = none) (t : TypeId) (n : Nat) (ps : Array (Nat × Operand)) (hop : o.op = .buildSlice t n ps) (qs : Array (Nat × Value)) (hq : (ps.map fun (i, x) => (i, a.eval x)) = qs) (c : Array Value) (te : TypeId) (m : Nat) (hv : (Instr.buildSlice t n qs).run P w = .ok (.slice (some ⟨w.heap.size, 0, none⟩) m m) (w.alloc (.cells c te)))
    (hK : ∀ w', Below w.heap.size w w' → w'.heap[w.heap.size]? = some (.cells c te (0, 0)) → K (a.put o.dst (.slice (some ⟨w.heap.size, 0, none⟩) m m)) w') :
    if Region.wanted o (yielded ops a.tmps) = true then Oper.wp P o a w K Q else E := by
  have hw : Region.wanted o (yielded ops a.tmps) = true := by simp [Region.wanted, hg]
  rw [if_pos hw]
  unfold Oper.wp execOp
  simp only [hop, hq, Sem.run_bind, Sem.run_pure, Result.andThen, hv]
  exact hK _ bxS (heap_alloc_last w _)
set_option maxRecDepth 100000 in
set_option maxHeartbeats 4000000 in
theorem rPort_in {b g cap k : Nat} {l : List Tok} {w : World} (h : Rq b g cap l k w) (ho : sw l k wOutput = false) (hi : sw l k wInput = true) (hop : sw l (k + 1) [91] = false) (hnm : nmK l (k + 1) = true) :
    Calls Try.prog 32 #[.pointer (some ⟨b, 0, none⟩)] w fun e w' => PoR b g cap l w (poD false false (tk l (k + 1)).x (tk l k).p) (k + 1 + 1) e w' := by
  have HT : Hid _ := h
  have hbl := h.blt
  have hgl := h.lt
  obtain ⟨p, hp⟩ : ∃ p, (tk l k).p = p := ⟨_, rfl⟩
  obtain ⟨sx, hsx⟩ : ∃ sx, S (tk l (k + 1)).x = sx := ⟨_, rfl⟩
  have HX : Hid _ := hsx
  clear h
  unfold PoR
  rw [hp]
  go_enter Try.func32, Try.ntmps32
  go_wp2_with (first
    | (have hx := hs10; refine wpl_store rfl 83 _ _ rfl (w.heap.size) rfl (poC (.bool false) (.bool false) (.string sx) (.int .i64 p)) rfl _ _ BR10 po_size rfl (poC_one _ _ _ _) ?_)
    | (have hx := hs10; refine wpl_load rfl 83 _ rfl (w1.heap.size) rfl (poC (.bool false) (.bool false) (.string sx) (.int .i64 p)) _ _ BP10 Try.underlying83 rfl po_size ?_)
    | (have hx := hs9; refine wpl_storeO rfl 9 _ _ rfl (w1.heap.size) 15 rfl (.string sx) rfl _ _ BP9 str_size (Nat.le_of_ble_eq_true rfl) (oneT _) (poC (.bool false) (.bool false) (.string sx) (.int .i64 p)) (by kernel_rfl) ?_; intro w10 o10 BP10; have x10 := heap_lt BP9; have hs10 := hs9.oth o10 (by omega) (by omega); have K10 := K9.oth o10 (by omega); have y10 := Nat.le_of_eq o10.size; have u10 := Nat.le_of_eq o10.size.symm; have BR10 := (o10.block (w.heap.size) (by omega)).trans BR9)
    | (have hx := hs8; go_at_call 29; refine (rNm hs8 hnm sx hsx).mono ?_; rintro e w9 ⟨rfl, hs9, hk9⟩; have y9 := hk9.le; have K9 := K8.trans hk9; have BR9 := hk9.at_ BR8 (by omega); have BP9 := hk9.at_ BP8 (by omega))
    | (have hx := hs7; refine wpl_storeO rfl 81 _ _ rfl (w1.heap.size) 9 rfl (.agg #[.int .i64 0, .string ⟨#[]⟩, .string ⟨#[]⟩, .bool false, .slice none 0 0, .int .i64 0]) rfl _ _ BP7 xr_size (Nat.le_of_ble_eq_true rfl) zE_one (poC (.bool false) (.bool false) (.string ⟨#[]⟩) (.int .i64 p)) (by kernel_rfl) ?_; intro w8 o8 BP8; have x8 := heap_lt BP7; have hs8 := hs7.oth o8 (by omega) (by omega); have K8 := K7.oth o8 (by omega); have y8 := Nat.le_of_eq o8.size; have u8 := Nat.le_of_eq o8.size.symm; have BR8 := (o8.block (w.heap.size) (by omega)).trans BR7)
    | (have hx := hs6; refine wpl_storeO rfl 81 _ _ rfl (w1.heap.size) 3 rfl (.agg #[.int .i64 0, .string ⟨#[]⟩, .string ⟨#[]⟩, .bool false, .slice none 0 0, .int .i64 0]) rfl _ _ BP6 xr_size (Nat.le_of_ble_eq_true rfl) zE_one (poC (.bool false) (.bool false) (.string ⟨#[]⟩) (.int .i64 p)) (by kernel_rfl) ?_; intro w7 o7 BP7; have x7 := heap_lt BP6; have hs7 := hs6.oth o7 (by omega) (by omega); have K7 := K6.oth o7 (by omega); have y7 := Nat.le_of_eq o7.size; have u7 := Nat.le_of_eq o7.size.symm; have BR7 := (o7.block (w.heap.size) (by omega)).trans BR6)
    | (have hx := hs5; refine wpl_storeO rfl 4 _ _ rfl (w1.heap.size) 2 rfl (.bool false) rfl _ _ BP5 boo_size (Nat.le_of_ble_eq_true rfl) (oneB _) (poC (.bool false) (.bool false) (.string ⟨#[]⟩) (.int .i64 p)) (by kernel_rfl) ?_; intro w6 o6 BP6; have x6 := heap_lt BP5; have hs6 := hs5.oth o6 (by omega) (by omega); have K6 := K5.oth o6 (by omega); have y6 := Nat.le_of_eq o6.size; have u6 := Nat.le_of_eq o6.size.symm; have BR6 := (o6.block (w.heap.size) (by omega)).trans BR5)
    | (have hx := hs4; go_at_call 49; refine (rSpanN hs4 hop).mono ?_; rintro e w5 ⟨rfl, hs5, hk5⟩; have y5 := hk5.le; have K5 := K4.trans hk5; have BR5 := hk5.at_ BR4 (by omega); have BP5 := hk5.at_ BP4 (by omega))
    | (have hx := hs3; go_at_call 28; refine (rMust hs3 ⟨#[105, 110, 112, 117, 116]⟩ hi).mono ?_; rintro e w4 ⟨rfl, hs4, hk4⟩; have y4 := hk4.le; have K4 := K3.trans hk4; have BR4 := hk4.at_ BR3 (by omega); have BP4 := hk4.at_ BP3 (by omega))
    | (have hx := hs2; go_at_call 30; refine (rTk hs2 ⟨#[111, 117, 116, 112, 117, 116]⟩ false k ho rfl).mono ?_; rintro e w3 ⟨rfl, hs3, hk3⟩; have y3 := hk3.le; have K3 := K2.trans hk3; have BR3 := hk3.at_ BR2 (by omega); have BP3 := hk3.at_ BP2 (by omega))
    | (have hx := hs1; refine wpl_newG rfl 83 _ _ rfl _ rfl rfl (poC (.bool false) (.bool false) (.string ⟨#[]⟩) (.int .i64 p)) rfl _ _ po_size rfl (poC_one _ _ _ _) ?_; intro w2 hb2 BP2; have hs2 := hs1.below hb2; have hk2 : Kp b w1 w2 := Kp.of hb2; have y2 := hk2.le; have K2 := K1.trans hk2; have BR2 := hk2.at_ BR1 (by omega); have v2 := heap_lt BP2)
    | (have hx := hs1; refine wpl_build rfl 83 _ rfl #[(6, .int .i64 p)] (by kernel_rfl) _ (build_port _ _) ?_)
    | (go_at_call 27; refine (rPl (HT.out.below bxS) p hp).mono ?_; rintro e w1 ⟨rfl, hs1, hk1⟩; have y1 : w.heap.size + 1 ≤ w1.heap.size := (by have := hk1.le; simp at this; omega); have K1 := (Kp.of (b := b) bxS).trans hk1; have BR1 := hk1.at_ (heap_alloc_last w _) (by omega)))
  have hsx2 := HX.out
  subst hsx2
  refine bodyPost_ret (results_cell (r := 2) (t := 83) rfl w.heap.size rfl _ _ _ (setRow_at BR10) Try.underlying83 rfl po_size) rfl ?_
  exact ⟨⟨_, _, _, _, rfl, poC_dat _ _ _ _ _ _⟩, hs10.row (by omega) (by omega), K10.row (by omega)⟩
set_option maxRecDepth 100000 in
set_option maxHeartbeats 4000000 in
theorem rPort_out {b g cap k : Nat} {l : List Tok} {w : World} (h : Rq b g cap l k w) (ho : sw l k wOutput = true) (hr : sw l (k + 1) wReg = false) (hop : sw l (k + 1) [91] = false) (hnm : nmK l (k + 1) = true) :
    Calls Try.prog 32 #[.pointer (some ⟨b, 0, none⟩)] w fun e w' => PoR b g cap l w (poD true false (tk l (k + 1)).x (tk l k).p) (k + 1 + 1) e w' := by
  have HT : Hid _ := h
  have hbl := h.blt
  have hgl := h.lt
  obtain ⟨p, hp⟩ : ∃ p, (tk l k).p = p := ⟨_, rfl⟩
  obtain ⟨sx, hsx⟩ : ∃ sx, S (tk l (k + 1)).x = sx := ⟨_, rfl⟩
  have HX : Hid _ := hsx
  clear h
  unfold PoR
  rw [hp]
  go_enter Try.func32, Try.ntmps32
  go_wp2_with (first
    | (have hx := hs12; refine wpl_store rfl 83 _ _ rfl (w.heap.size) rfl (poC (.bool true) (.bool false) (.string sx) (.int .i64 p)) rfl _ _ BR12 po_size rfl (poC_one _ _ _ _) ?_)
    | (have hx := hs12; refine wpl_load rfl 83 _ rfl (w1.heap.size) rfl (poC (.bool true) (.bool false) (.string sx) (.int .i64 p)) _ _ BP12 Try.underlying83 rfl po_size ?_)
    | (have hx := hs11; refine wpl_storeO rfl 9 _ _ rfl (w1.heap.size) 15 rfl (.string sx) rfl _ _ BP11 str_size (Nat.le_of_ble_eq_true rfl) (oneT _) (poC (.bool true) (.bool false) (.string sx) (.int .i64 p)) (by kernel_rfl) ?_; intro w12 o12 BP12; have x12 := heap_lt BP11; have hs12 := hs11.oth o12 (by omega) (by omega); have K12 := K11.oth o12 (by omega); have y12 := Nat.le_of_eq o12.size; have u12 := Nat.le_of_eq o12.size.symm; have BR12 := (o12.block (w.heap.size) (by omega)).trans BR11)
    | (have hx := hs10; go_at_call 29; refine (rNm hs10 hnm sx hsx).mono ?_; rintro e w11 ⟨rfl, hs11, hk11⟩; have y11 := hk11.le; have K11 := K10.trans hk11; have BR11 := hk11.at_ BR10 (by omega); have BP11 := hk11.at_ BP10 (by omega))
    | (have hx := hs9; refine wpl_storeO rfl 81 _ _ rfl (w1.heap.size) 9 rfl (.agg #[.int .i64 0, .string ⟨#[]⟩, .string ⟨#[]⟩, .bool false, .slice none 0 0, .int .i64 0]) rfl _ _ BP9 xr_size (Nat.le_of_ble_eq_true rfl) zE_one (poC (.bool true) (.bool false) (.string ⟨#[]⟩) (.int .i64 p)) (by kernel_rfl) ?_; intro w10 o10 BP10; have x10 := heap_lt BP9; have hs10 := hs9.oth o10 (by omega) (by omega); have K10 := K9.oth o10 (by omega); have y10 := Nat.le_of_eq o10.size; have u10 := Nat.le_of_eq o10.size.symm; have BR10 := (o10.block (w.heap.size) (by omega)).trans BR9)
    | (have hx := hs8; refine wpl_storeO rfl 81 _ _ rfl (w1.heap.size) 3 rfl (.agg #[.int .i64 0, .string ⟨#[]⟩, .string ⟨#[]⟩, .bool false, .slice none 0 0, .int .i64 0]) rfl _ _ BP8 xr_size (Nat.le_of_ble_eq_true rfl) zE_one (poC (.bool true) (.bool false) (.string ⟨#[]⟩) (.int .i64 p)) (by kernel_rfl) ?_; intro w9 o9 BP9; have x9 := heap_lt BP8; have hs9 := hs8.oth o9 (by omega) (by omega); have K9 := K8.oth o9 (by omega); have y9 := Nat.le_of_eq o9.size; have u9 := Nat.le_of_eq o9.size.symm; have BR9 := (o9.block (w.heap.size) (by omega)).trans BR8)
    | (have hx := hs7; refine wpl_storeO rfl 4 _ _ rfl (w1.heap.size) 2 rfl (.bool false) rfl _ _ BP7 boo_size (Nat.le_of_ble_eq_true rfl) (oneB _) (poC (.bool true) (.bool false) (.string ⟨#[]⟩) (.int .i64 p)) (by kernel_rfl) ?_; intro w8 o8 BP8; have x8 := heap_lt BP7; have hs8 := hs7.oth o8 (by omega) (by omega); have K8 := K7.oth o8 (by omega); have y8 := Nat.le_of_eq o8.size; have u8 := Nat.le_of_eq o8.size.symm; have BR8 := (o8.block (w.heap.size) (by omega)).trans BR7)
    | (have hx := hs6; go_at_call 49; refine (rSpanN hs6 hop).mono ?_; rintro e w7 ⟨rfl, hs7, hk7⟩; have y7 := hk7.le; have K7 := K6.trans hk7; have BR7 := hk7.at_ BR6 (by omega); have BP7 := hk7.at_ BP6 (by omega))
    | (have hx := hs5; refine wpl_storeO rfl 4 _ _ rfl (w1.heap.size) 1 rfl (.bool false) rfl _ _ BP5 boo_size (Nat.le_of_ble_eq_true rfl) (oneB _) (poC (.bool true) (.bool false) (.string ⟨#[]⟩) (.int .i64 p)) (by kernel_rfl) ?_; intro w6 o6 BP6; have x6 := heap_lt BP5; have hs6 := hs5.oth o6 (by omega) (by omega); have K6 := K5.oth o6 (by omega); have y6 := Nat.le_of_eq o6.size; have u6 := Nat.le_of_eq o6.size.symm; have BR6 := (o6.block (w.heap.size) (by omega)).trans BR5)
    | (have hx := hs4; go_at_call 30; refine (rTk hs4 ⟨#[114, 101, 103]⟩ false (k + 1) hr rfl).mono ?_; rintro e w5 ⟨rfl, hs5, hk5⟩; have y5 := hk5.le; have K5 := K4.trans hk5; have BR5 := hk5.at_ BR4 (by omega); have BP5 := hk5.at_ BP4 (by omega))
    | (have hx := hs3; refine wpl_storeO rfl 4 _ _ rfl (w1.heap.size) 0 rfl (.bool true) rfl _ _ BP3 boo_size (Nat.le_of_ble_eq_true rfl) (oneB _) (poC (.bool true) (.bool false) (.string ⟨#[]⟩) (.int .i64 p)) (by kernel_rfl) ?_; intro w4 o4 BP4; have x4 := heap_lt BP3; have hs4 := hs3.oth o4 (by omega) (by omega); have K4 := K3.oth o4 (by omega); have y4 := Nat.le_of_eq o4.size; have u4 := Nat.le_of_eq o4.size.symm; have BR4 := (o4.block (w.heap.size) (by omega)).trans BR3)
    | (have hx := hs2; go_at_call 30; refine (rTk hs2 ⟨#[111, 117, 116, 112, 117, 116]⟩ true (k + 1) ho rfl).mono ?_; rintro e w3 ⟨rfl, hs3, hk3⟩; have y3 := hk3.le; have K3 := K2.trans hk3; have BR3 := hk3.at_ BR2 (by omega); have BP3 := hk3.at_ BP2 (by omega))
    | (have hx := hs1; refine wpl_newG rfl 83 _ _ rfl _ rfl rfl (poC (.bool false) (.bool false) (.string ⟨#[]⟩) (.int .i64 p)) rfl _ _ po_size rfl (poC_one _ _ _ _) ?_; intro w2 hb2 BP2; have hs2 := hs1.below hb2; have hk2 : Kp b w1 w2 := Kp.of hb2; have y2 := hk2.le; have K2 := K1.trans hk2; have BR2 := hk2.at_ BR1 (by omega); have v2 := heap_lt BP2)
    | (have hx := hs1; refine wpl_build rfl 83 _ rfl #[(6, .int .i64 p)] (by kernel_rfl) _ (build_port _ _) ?_)
    | (go_at_call 27; refine (rPl (HT.out.below bxS) p hp).mono ?_; rintro e w1 ⟨rfl, hs1, hk1⟩; have y1 : w.heap.size + 1 ≤ w1.heap.size := (by have := hk1.le; simp at this; omega); have K1 := (Kp.of (b := b) bxS).trans hk1; have BR1 := hk1.at_ (heap_alloc_last w _) (by omega)))
  have hsx2 := HX.out
  subst hsx2
  refine bodyPost_ret (results_cell (r := 2) (t := 83) rfl w.heap.size rfl _ _ _ (setRow_at BR12) Try.underlying83 rfl po_size) rfl ?_
  exact ⟨⟨_, _, _, _, rfl, poC_dat _ _ _ _ _ _⟩, hs12.row (by omega) (by omega), K12.row (by omega)⟩
set_option maxRecDepth 100000 in
set_option maxHeartbeats 4000000 in
theorem rPort_outreg {b g cap k : Nat} {l : List Tok} {w : World} (h : Rq b g cap l k w) (ho : sw l k wOutput = true) (hr : sw l (k + 1) wReg = true) (hop : sw l (k + 1 + 1) [91] = false) (hnm : nmK l (k + 1 + 1) = true) :
    Calls Try.prog 32 #[.pointer (some ⟨b, 0, none⟩)] w fun e w' => PoR b g cap l w (poD true true (tk l (k + 1 + 1)).x (tk l k).p) (k + 1 + 1 + 1) e w' := by
  have HT : Hid _ := h
  have hbl := h.blt
  have hgl := h.lt
  obtain ⟨p, hp⟩ : ∃ p, (tk l k).p = p := ⟨_, rfl⟩
  obtain ⟨sx, hsx⟩ : ∃ sx, S (tk l (k + 1 + 1)).x = sx := ⟨_, rfl⟩
  have HX : Hid _ := hsx
  clear h
  unfold PoR
  rw [hp]
  go_enter Try.func32, Try.ntmps32
  go_wp2_with (first
    | (have hx := hs12; refine wpl_store rfl 83 _ _ rfl (w.heap.size) rfl (poC (.bool true) (.bool true) (.string sx) (.int .i64 p)) rfl _ _ BR12 po_size rfl (poC_one _ _ _ _) ?_)
    | (have hx := hs12; refine wpl_load rfl 83 _ rfl (w1.heap.size) rfl (poC (.bool true) (.bool true) (.string sx) (.int .i64 p)) _ _ BP12 Try.underlying83 rfl po_size ?_)
    | (have hx := hs11; refine wpl_storeO rfl 9 _ _ rfl (w1.heap.size) 15 rfl (.string sx) rfl _ _ BP11 str_size (Nat.le_of_ble_eq_true rfl) (oneT _) (poC (.bool true) (.bool true) (.string sx) (.int .i64 p)) (by kernel_rfl) ?_; intro w12 o12 BP12; have x12 := heap_lt BP11; have hs12 := hs11.oth o12 (by omega) (by omega); have K12 := K11.oth o12 (by omega); have y12 := Nat.le_of_eq o12.size; have u12 := Nat.le_of_eq o12.size.symm; have BR12 := (o12.block (w.heap.size) (by omega)).trans BR11)
    | (have hx := hs10; go_at_call 29; refine (rNm hs10 hnm sx hsx).mono ?_; rintro e w11 ⟨rfl, hs11, hk11⟩; have y11 := hk11.le; have K11 := K10.trans hk11; have BR11 := hk11.at_ BR10 (by omega); have BP11 := hk11.at_ BP10 (by omega))
    | (have hx := hs9; refine wpl_storeO rfl 81 _ _ rfl (w1.heap.size) 9 rfl (.agg #[.int .i64 0, .string ⟨#[]⟩, .string ⟨#[]⟩, .bool false, .slice none 0 0, .int .i64 0]) rfl _ _ BP9 xr_size (Nat.le_of_ble_eq_true rfl) zE_one (poC (.bool true) (.bool true) (.string ⟨#[]⟩) (.int .i64 p)) (by kernel_rfl) ?_; intro w10 o10 BP10; have x10 := heap_lt BP9; have hs10 := hs9.oth o10 (by omega) (by omega); have K10 := K9.oth o10 (by omega); have y10 := Nat.le_of_eq o10.size; have u10 := Nat.le_of_eq o10.size.symm; have BR10 := (o10.block (w.heap.size) (by omega)).trans BR9)
    | (have hx := hs8; refine wpl_storeO rfl 81 _ _ rfl (w1.heap.size) 3 rfl (.agg #[.int .i64 0, .string ⟨#[]⟩, .string ⟨#[]⟩, .bool false, .slice none 0 0, .int .i64 0]) rfl _ _ BP8 xr_size (Nat.le_of_ble_eq_true rfl) zE_one (poC (.bool true) (.bool true) (.string ⟨#[]⟩) (.int .i64 p)) (by kernel_rfl) ?_; intro w9 o9 BP9; have x9 := heap_lt BP8; have hs9 := hs8.oth o9 (by omega) (by omega); have K9 := K8.oth o9 (by omega); have y9 := Nat.le_of_eq o9.size; have u9 := Nat.le_of_eq o9.size.symm; have BR9 := (o9.block (w.heap.size) (by omega)).trans BR8)
    | (have hx := hs7; refine wpl_storeO rfl 4 _ _ rfl (w1.heap.size) 2 rfl (.bool false) rfl _ _ BP7 boo_size (Nat.le_of_ble_eq_true rfl) (oneB _) (poC (.bool true) (.bool true) (.string ⟨#[]⟩) (.int .i64 p)) (by kernel_rfl) ?_; intro w8 o8 BP8; have x8 := heap_lt BP7; have hs8 := hs7.oth o8 (by omega) (by omega); have K8 := K7.oth o8 (by omega); have y8 := Nat.le_of_eq o8.size; have u8 := Nat.le_of_eq o8.size.symm; have BR8 := (o8.block (w.heap.size) (by omega)).trans BR7)
    | (have hx := hs6; go_at_call 49; refine (rSpanN hs6 hop).mono ?_; rintro e w7 ⟨rfl, hs7, hk7⟩; have y7 := hk7.le; have K7 := K6.trans hk7; have BR7 := hk7.at_ BR6 (by omega); have BP7 := hk7.at_ BP6 (by omega))
    | (have hx := hs5; refine wpl_storeO rfl 4 _ _ rfl (w1.heap.size) 1 rfl (.bool true) rfl _ _ BP5 boo_size (Nat.le_of_ble_eq_true rfl) (oneB _) (poC (.bool true) (.bool true) (.string ⟨#[]⟩) (.int .i64 p)) (by kernel_rfl) ?_; intro w6 o6 BP6; have x6 := heap_lt BP5; have hs6 := hs5.oth o6 (by omega) (by omega); have K6 := K5.oth o6 (by omega); have y6 := Nat.le_of_eq o6.size; have u6 := Nat.le_of_eq o6.size.symm; have BR6 := (o6.block (w.heap.size) (by omega)).trans BR5)
    | (have hx := hs4; go_at_call 30; refine (rTk hs4 ⟨#[114, 101, 103]⟩ true (k + 1 + 1) hr rfl).mono ?_; rintro e w5 ⟨rfl, hs5, hk5⟩; have y5 := hk5.le; have K5 := K4.trans hk5; have BR5 := hk5.at_ BR4 (by omega); have BP5 := hk5.at_ BP4 (by omega))
    | (have hx := hs3; refine wpl_storeO rfl 4 _ _ rfl (w1.heap.size) 0 rfl (.bool true) rfl _ _ BP3 boo_size (Nat.le_of_ble_eq_true rfl) (oneB _) (poC (.bool true) (.bool false) (.string ⟨#[]⟩) (.int .i64 p)) (by kernel_rfl) ?_; intro w4 o4 BP4; have x4 := heap_lt BP3; have hs4 := hs3.oth o4 (by omega) (by omega); have K4 := K3.oth o4 (by omega); have y4 := Nat.le_of_eq o4.size; have u4 := Nat.le_of_eq o4.size.symm; have BR4 := (o4.block (w.heap.size) (by omega)).trans BR3)
    | (have hx := hs2; go_at_call 30; refine (rTk hs2 ⟨#[111, 117, 116, 112, 117, 116]⟩ true (k + 1) ho rfl).mono ?_; rintro e w3 ⟨rfl, hs3, hk3⟩; have y3 := hk3.le; have K3 := K2.trans hk3; have BR3 := hk3.at_ BR2 (by omega); have BP3 := hk3.at_ BP2 (by omega))
    | (have hx := hs1; refine wpl_newG rfl 83 _ _ rfl _ rfl rfl (poC (.bool false) (.bool false) (.string ⟨#[]⟩) (.int .i64 p)) rfl _ _ po_size rfl (poC_one _ _ _ _) ?_; intro w2 hb2 BP2; have hs2 := hs1.below hb2; have hk2 : Kp b w1 w2 := Kp.of hb2; have y2 := hk2.le; have K2 := K1.trans hk2; have BR2 := hk2.at_ BR1 (by omega); have v2 := heap_lt BP2)
    | (have hx := hs1; refine wpl_build rfl 83 _ rfl #[(6, .int .i64 p)] (by kernel_rfl) _ (build_port _ _) ?_)
    | (go_at_call 27; refine (rPl (HT.out.below bxS) p hp).mono ?_; rintro e w1 ⟨rfl, hs1, hk1⟩; have y1 : w.heap.size + 1 ≤ w1.heap.size := (by have := hk1.le; simp at this; omega); have K1 := (Kp.of (b := b) bxS).trans hk1; have BR1 := hk1.at_ (heap_alloc_last w _) (by omega)))
  have hsx2 := HX.out
  subst hsx2
  refine bodyPost_ret (results_cell (r := 2) (t := 83) rfl w.heap.size rfl _ _ _ (setRow_at BR12) Try.underlying83 rfl po_size) rfl ?_
  exact ⟨⟨_, _, _, _, rfl, poC_dat _ _ _ _ _ _⟩, hs12.row (by omega) (by omega), K12.row (by omega)⟩
theorem sP_way {l : List Tok} {k k' : Nat} {x : List Dc} (h : sP l k = some (x, k')) :
    (sw l k wOutput = true ∧ sw l (k + 1) wReg = true ∧ sw l (k + 1 + 1) [91] = false ∧ nmK l (k + 1 + 1) = true ∧ x = poD true true (tk l (k + 1 + 1)).x (tk l k).p ∧ k' = k + 1 + 1 + 1) ∨
    (sw l k wOutput = true ∧ sw l (k + 1) wReg = false ∧ sw l (k + 1) [91] = false ∧ nmK l (k + 1) = true ∧ x = poD true false (tk l (k + 1)).x (tk l k).p ∧ k' = k + 1 + 1) ∨
    (sw l k wOutput = false ∧ sw l k wInput = true ∧ sw l (k + 1) [91] = false ∧ nmK l (k + 1) = true ∧ x = poD false false (tk l (k + 1)).x (tk l k).p ∧ k' = k + 1 + 1) := by
  unfold sP at h
  cases ho : sw l k wOutput with
  | true =>
    rw [ho] at h
    simp only [if_true] at h
    cases hr : sw l (k + 1) wReg with
    | true =>
      rw [hr] at h
      simp only [if_true] at h
      split at h
      · rename_i hc; injection h with h; injection h with e1 e2; exact Or.inl ⟨rfl, rfl, hc.1, hc.2, e1.symm, e2.symm⟩
      · cases h
    | false =>
      rw [hr] at h
      simp only [Bool.false_eq_true, if_false] at h
      split at h
      · rename_i hc; injection h with h; injection h with e1 e2; exact Or.inr (Or.inl ⟨rfl, rfl, hc.1, hc.2, e1.symm, e2.symm⟩)
      · cases h
  | false =>
    rw [ho] at h
    simp only [Bool.false_eq_true, if_false] at h
    split at h
    · rename_i hc; injection h with h; injection h with e1 e2; exact Or.inr (Or.inr ⟨rfl, hc.1, hc.2.1, hc.2.2, e1.symm, e2.symm⟩)
    · cases h
theorem rPort {b g cap k k' : Nat} {l : List Tok} {x : List Dc} (hx : sP l k = some (x, k')) (w : World) (h : Rq b g cap l k w) :
    Calls Try.prog 32 #[.pointer (some ⟨b, 0, none⟩)] w fun e w' => PoR b g cap l w x k' e w' := by
  rcases sP_way hx with ⟨h1, h2, h3, h4, rfl, rfl⟩ | ⟨h1, h2, h3, h4, rfl, rfl⟩ | ⟨h1, h2, h3, h4, rfl, rfl⟩
  · exact rPort_outreg h h1 h2 h3 h4
  · exact rPort_out h h1 h2 h3 h4
  · exact rPort_in h h1 h2 h3 h4
theorem sP_lt {l : List Tok} {k k' : Nat} {x : List Dc} (hx : sP l k = some (x, k')) : k < k' ∧ x.length = 17 := by
  rcases sP_way hx with ⟨h1, h2, h3, h4, rfl, rfl⟩ | ⟨h1, h2, h3, h4, rfl, rfl⟩ | ⟨h1, h2, h3, h4, rfl, rfl⟩ <;> exact ⟨by omega, rfl⟩
end Go.Proofs.Ytpnhefjiobnelaa
