/- Layer 19 of the program: a dump is written, or given up. -/
import Derived.Test.YtfcongggmjijfaaDoorUF
namespace Go.Proofs.YtfcongggmjijfaaDoor
set_option maxRecDepth 100000
open Go.RowKit Lg Nl Go.Maps Wf Vd
set_option linter.unusedVariables false
set_option linter.unusedSimpArgs false

theorem asV_yes (w : World) : (Instr.typeAssert (.iface 54 (.agg #[])) 20 54 true).run Tryd.prog w = .ok (.tuple #[.agg #[], .bool true]) w := by kernel_rfl
theorem asV_no (w : World) : (Instr.typeAssert .nilIface 20 54 true).run Tryd.prog w = .ok (.tuple #[.agg #[], .bool false]) w := by kernel_rfl
theorem set10 {W : World} {b : Nat} {x0 y : Value} {t : TypeId} (h : W.heap[b]? = some (.cells #[x0] t (0, 0))) : (W.setCell ⟨b, 0, none⟩ y).heap[b]? = some (.cells #[y] t (0, 0)) := by
  simp only [World.setCell]
  rw [Array.getElem?_modify, if_pos rfl, h]; rfl
theorem set_far {W : World} {b k : Nat} {y : Value} (h : k ≠ b) : (W.setCell ⟨b, 0, none⟩ y).heap[k]? = W.heap[k]? := Below.heap_setCell _ _ _ _ (show k ≠ b from h)
set_option maxRecDepth 100000 in
set_option maxHeartbeats 2000000 in
theorem catchV (B sb ob : Nat) (s0 o0 : Value) (w : World) (hs : w.heap[sb]? = some (.cells #[s0] 9 (0, 0))) (ho : w.heap[ob]? = some (.cells #[o0] 4 (0, 0))) (hne : sb ≠ ob) (h1 : B ≤ sb) (h2 : B ≤ ob) :
    CallsD Tryd.prog 26 #[.pointer (some ⟨sb, 0, none⟩), .pointer (some ⟨ob, 0, none⟩)] (.panicking pnV) w fun e u' w' =>
      e = .returned (.tuple #[]) ∧ u' = .panicking [{ v := .iface 54 (.agg #[]), recovered := true }] ∧ w'.cell? ⟨sb, 0, none⟩ = some (.string ⟨#[]⟩) ∧ w'.cell? ⟨ob, 0, none⟩ = some (.bool false) ∧ Below B w w' := by
  have hcs : w.cell? ⟨sb, 0, none⟩ = some s0 := by rw [Lib.cell_of_heap hs]; rfl
  have hco : w.cell? ⟨ob, 0, none⟩ = some o0 := by rw [Lib.cell_of_heap ho]; rfl
  have hzs := Lib.frozen_of_heap hs 0
  have hzo := Lib.frozen_of_heap ho 0
  have hls := hLt hs
  have hlo := hLt ho
  have HS := hidV hs
  have HO := hidV ho
  clear hs ho
  refine callsD_of_wpS Tryd.func26 rfl fun c₀ cs hu => ?_
  have hu2 : c₀.mode = .panicking [{ v := .iface 54 (.agg #[]), recovered := false }] := hu
  apply wpS_seq
  apply wpS_region
  simp [wpOpsS, go_sem, recoverD, hu2, Tryd.ntmps26, Exit.thenS, asV_yes, Array.replicate]
  refine wpS_of_wp ?_
  go_wp2_with fail
  simp [bodyPostS, results, Tryd.results26]
  have e1 : ((w.setCell ⟨sb, 0, none⟩ (.string ⟨#[]⟩)).setCell ⟨ob, 0, none⟩ (.bool false)).heap[sb]? = some (.cells #[.string ⟨#[]⟩] 9 (0, 0)) := (set_far hne).trans (set10 HS.out)
  have e2 : ((w.setCell ⟨sb, 0, none⟩ (.string ⟨#[]⟩)).setCell ⟨ob, 0, none⟩ (.bool false)).heap[ob]? = some (.cells #[.bool false] 4 (0, 0)) := set10 ((set_far (Ne.symm hne)).trans HO.out)
  generalize hW : (w.setCell ⟨sb, 0, none⟩ (.string ⟨#[]⟩)).setCell ⟨ob, 0, none⟩ (.bool false) = W at *
  have hb : Below B w W := by rw [← hW]; exact ((Below.refl B w).setCell (p := ⟨sb, 0, none⟩) h1 _).setCell (p := ⟨ob, 0, none⟩) h2 _
  have hb2 : Below W.heap.size W (W.alloc (.cells #[] 54)) := belA (Below.refl _ _) _
  refine ⟨?_, ?_, ?_⟩
  · rw [Lib.cell_of_heap ((hb2.block sb (hLt e1)).trans e1)]; rfl
  · rw [Lib.cell_of_heap ((hb2.block ob (hLt e2)).trans e2)]; rfl
  · exact hb.trans (hb2.mono (by have := hLt e1; omega))
set_option maxRecDepth 100000 in
set_option maxHeartbeats 2000000 in
theorem catchI (sb ob : Nat) (w : World) :
    CallsD Tryd.prog 26 #[.pointer (some ⟨sb, 0, none⟩), .pointer (some ⟨ob, 0, none⟩)] .returning w fun e u' w' => e = .returned (.tuple #[]) ∧ u' = .returning ∧ w' = w.alloc (.cells #[] 54) := by
  refine callsD_of_wpS Tryd.func26 rfl fun c₀ cs hu => ?_
  apply wpS_seq
  apply wpS_region
  simp [wpOpsS, go_sem, recoverD, hu, Tryd.ntmps26, Exit.thenS, asV_no, Array.replicate]
  refine wpS_of_wp ?_
  have hy := asV_no
  go_wp2_with fail
  cases c₀
  simp_all [bodyPostS, results, Tryd.results26]
theorem top_is (x : Wv) : netsT x ++ valsT x = topL x := by
  unfold netsT valsT topL
  have e : midT = midU ++ dumpT := rfl
  rw [e]
  simp only [List.append_assoc]
theorem text_ne (x : Wv) : textL x ≠ [] := by
  unfold textL topL headT
  intro h
  cases h
def fitT (x : Wv) : Bool := decide ((textL x).length ≤ maxO)
def wtT (x : Wv) : ByteArray := if fitT x then S (textL x) else ⟨#[]⟩
set_option maxRecDepth 100000 in
set_option maxHeartbeats 8000000 in
theorem written_c (x : Wv) (vn vw vf vl : Value) (w : World) (hx : WvAt w vn vw vf vl x) (hm : Nice x) (hll : x.li.length ≤ 100000000) (hp : PowT w) :
    Calls Tryd.prog 17 #[.agg #[vn, vw, vf, vl]] w fun e w' => e = .returned (.tuple #[.string (wtT x), .bool (fitT x)]) ∧ Below w.heap.size w w' := by
  have hmf : ∀ (fn : Fn) (first cap : Array Value) (w : World), (Instr.makeFunc fn first cap).run Tryd.prog w = .ok (.func fn first cap) w := fun _ _ _ _ => rfl
  obtain ⟨W4, hW4⟩ : ∃ W4, W4 = (((w.alloc (.cells #[vn, vw, vf, vl] 26)).alloc (.cells #[.string ⟨#[]⟩] 9)).alloc (.cells #[.bool false] 4)).alloc (.cells #[.pointer none, .slice none 0 0] 60) := ⟨_, rfl⟩
  have HB4 : Hid (Below w.heap.size w W4) := by rw [hW4]; exact belA (belA (belA (belA (Below.refl _ _) _) _) _) _
  have HE : Hid (W4.heap[w.heap.size]? = some (.cells #[vn, vw, vf, vl] 26 (0, 0))) := by rw [hW4]; exact (alOld (by simp <;> omega)).trans ((alOld (by simp <;> omega)).trans ((alOld (by simp)).trans (alAt rfl)))
  have HSb : Hid (W4.heap[w.heap.size + 1]? = some (.cells #[.string ⟨#[]⟩] 9 (0, 0))) := by rw [hW4]; exact (alOld (by simp <;> omega)).trans ((alOld (by simp)).trans (alAt (by simp)))
  have HOb : Hid (W4.heap[w.heap.size + 1 + 1]? = some (.cells #[.bool false] 4 (0, 0))) := by rw [hW4]; exact (alOld (by simp)).trans (alAt (by simp))
  have HU4 : Hid (Bu (w.heap.size + 1 + 1 + 1) W4 []) := ⟨none, none, 0, 0, Or.inl rfl, by rw [hW4]; exact alAt (by simp), Ob.nil _ _⟩
  obtain ⟨b, hb⟩ : ∃ b, b = w.heap.size + 1 + 1 + 1 := ⟨_, rfl⟩
  have HBb : Hid (b = w.heap.size + 1 + 1 + 1) := hb
  have hwb : w.heap.size ≤ b := by omega
  have HM := hidV hm
  rw [← hb] at HU4
  have HNt := hidV (nets_c x b vn vw vf vl w W4 hx.nm hx.wd HB4.out hwb HU4.out hm hp)
  have HVl : Hid (∀ W, Below w.heap.size w W → Bu b W (netsT x) → (netsT x).length ≤ maxO → Calls Tryd.prog 28 #[.pointer (some ⟨b, 0, none⟩), vf] W fun e w' => Ln b W (topL x) e w') := fun W h1 h2 h3 => by
    have h := values_c x b (netsT x) vf w W hx.fi h1 hwb h2 h3 (by have := HM.out.lf; have := HM.out.ln; omega) (fun i hi => HM.out.fi i (by have := HM.out.lf; omega))
    rw [top_is] at h
    exact h
  have HCh : Hid (∀ W, Below w.heap.size w W → Bu b W (topL x) → (topL x).length ≤ maxO → Calls Tryd.prog 29 #[.pointer (some ⟨b, 0, none⟩), vl] W fun e w' => Ln b W (textL x) e w') := fun W h1 h2 h3 => changesV_c x b (topL x) vl w W hx.li h1 hwb h2 h3 hm hll hp
  have HNe := hidV (text_ne x)
  have HTx : Hid (textL x = topL x ++ listL none x.li) := rfl
  have HTp := hidV (top_is x)
  obtain ⟨fl, hfl⟩ : ∃ q, q = fitT x := ⟨_, rfl⟩
  have HFl : Hid (fl = decide ((textL x).length ≤ maxO)) := hfl
  have HWt : Hid (wtT x = if fl then S (textL x) else ⟨#[]⟩) := by show _ = _; rw [hfl]; rfl
  rw [← hfl]
  clear hfl hx hm hll hp hwb
  generalize wtT x = rt at *
  generalize netsT x = t1 at *
  generalize valsT x = tv at *
  generalize topL x = t2 at *
  generalize textL x = T at *
  obtain ⟨OB, hOB⟩ : ∃ q, q = w.heap.size + 1 + 1 := ⟨_, rfl⟩
  obtain ⟨SB, hSB⟩ : ∃ q, q = w.heap.size + 1 := ⟨_, rfl⟩
  obtain ⟨E, hE⟩ : ∃ q, q = w.heap.size := ⟨_, rfl⟩
  rw [← hOB] at HOb hb
  rw [← hSB] at HSb hOB
  rw [← hE] at HE hSB
  have HEq : Hid (w.heap.size = E ∧ SB = E + 1 ∧ OB = E + 1 + 1 ∧ b = E + 1 + 1 + 1) := ⟨hE.symm, hSB, by rw [hOB, hSB], by rw [hb, hOB, hSB]⟩
  have HWb : Hid (∀ W, Kb b W4 W → Below w.heap.size w W) := fun W hW => Kb.old HB4.out (by have := HEq.out; omega) hW
  have HEw : Hid (∀ W, Kb b W4 W → W.heap[E]? = some (.cells #[vn, vw, vf, vl] 26 (0, 0))) := fun W hW => (hW.low.block E (by have := HEq.out; omega)).trans HE.out
  have HSw : Hid (∀ W, Kb b W4 W → W.heap[SB]? = some (.cells #[.string ⟨#[]⟩] 9 (0, 0))) := fun W hW => (hW.low.block SB (by have := HEq.out; omega)).trans HSb.out
  have HOw : Hid (∀ W, Kb b W4 W → W.heap[OB]? = some (.cells #[.bool false] 4 (0, 0))) := fun W hW => (hW.low.block OB (by have := HEq.out; omega)).trans HOb.out
  have hE2 := hE.symm
  have hSB2 := hSB
  have hOB2 := hOB
  have hb2 := hb
  clear hE hSB hOB hb
  by_cases h1 : t1.length ≤ maxO
  case neg =>
    have HQ : Hid (fl = false ∧ rt = ⟨#[]⟩) := by
      have e : fl = false := by rw [HFl.out]; exact decide_eq_false (by rw [HTx.out, ← HTp.out]; simp only [List.length_append]; omega)
      exact ⟨e, by rw [HWt.out, e]; rfl⟩
    have HC := hidV (calls_no HNt.out (by omega))
    clear h1 HNt HVl HCh
    rw [HQ.out.1, HQ.out.2]
    go_enter_defers Tryd.func17, Tryd.ntmps17
    go_upto_region 3 with fail
    rw [← hW4, ← hSB2, ← hOB2, ← hb2]
    clear hW4 hE2 hSB2 hOB2 hb2
    obtain ⟨b0, b1, b2, b3⟩ := cells4 HE.out
    go_wp2_with (first
      | (go_at_call 27; refine HC.out.mono ?_; rintro e w5 ⟨rfl, hk5⟩; have HK5 := hidV hk5; clear hk5))
    refine leaves_cons (f := 26) (args := #[.pointer (some ⟨SB, 0, none⟩), .pointer (some ⟨OB, 0, none⟩)]) (by simp) (by simp [go_sem]) ?_
    refine (catchV w.heap.size SB OB _ _ w5 (HSw.out _ HK5.out) (HOw.out _ HK5.out) (by have := HEq.out; omega) (by have := HEq.out; omega) (by have := HEq.out; omega)).mono ?_
    rintro e u' w9 ⟨rfl, rfl, hcs, hco, hbe⟩
    have HBe := hidV ((HWb.out _ HK5.out).trans hbe)
    simp [Leaves, settle, results, Tryd.results17, go_sem, hcs, hco]
    exact HBe.out
  have HC1 := hidV (calls_ok HNt.out h1)
  have HQ1 := hidV h1
  by_cases h2 : t2.length ≤ maxO
  case neg =>
    have HQ : Hid (fl = false ∧ rt = ⟨#[]⟩) := by
      have e : fl = false := by rw [HFl.out]; exact decide_eq_false (by rw [HTx.out]; simp only [List.length_append]; omega)
      exact ⟨e, by rw [HWt.out, e]; rfl⟩
    have HC2 : Hid (∀ W, Below w.heap.size w W → Bu b W t1 → Calls Tryd.prog 28 #[.pointer (some ⟨b, 0, none⟩), vf] W fun e w' => e = .panicked pnV ∧ Kb b W w') := fun W a1 a2 => calls_no (HVl.out W a1 a2 HQ1.out) (by omega)
    clear h1 h2 HNt HVl HCh
    rw [HQ.out.1, HQ.out.2]
    go_enter_defers Tryd.func17, Tryd.ntmps17
    go_upto_region 3 with fail
    rw [← hW4, ← hSB2, ← hOB2, ← hb2]
    clear hW4 hE2 hSB2 hOB2 hb2
    obtain ⟨b0, b1, b2, b3⟩ := cells4 HE.out
    go_upto_region 4 with (first
      | (go_at_call 27; refine HC1.out.mono ?_; rintro e w5 ⟨rfl, hu5, hk5⟩))
    have HU5 := hidV hu5
    have HK5 := hidV hk5
    clear hu5 hk5 b0 b1 b2 b3
    obtain ⟨b0, b1, b2, b3⟩ := cells4 (HEw.out _ HK5.out)
    go_wp2_with (first
      | (go_at_call 28; refine (HC2.out _ (HWb.out _ HK5.out) HU5.out).mono ?_; rintro e w6 ⟨rfl, hk6⟩; have HK6 := hidV (HK5.out.trans hk6); clear hk6))
    refine leaves_cons (f := 26) (args := #[.pointer (some ⟨SB, 0, none⟩), .pointer (some ⟨OB, 0, none⟩)]) (by simp) (by simp [go_sem]) ?_
    refine (catchV w.heap.size SB OB _ _ w6 (HSw.out _ HK6.out) (HOw.out _ HK6.out) (by have := HEq.out; omega) (by have := HEq.out; omega) (by have := HEq.out; omega)).mono ?_
    rintro e u' w9 ⟨rfl, rfl, hcs, hco, hbe⟩
    have HBe := hidV ((HWb.out _ HK6.out).trans hbe)
    simp [Leaves, settle, results, Tryd.results17, go_sem, hcs, hco]
    exact HBe.out
  have HC2 : Hid (∀ W, Below w.heap.size w W → Bu b W t1 → Calls Tryd.prog 28 #[.pointer (some ⟨b, 0, none⟩), vf] W fun e w' => e = .returned (.tuple #[]) ∧ Bu b w' t2 ∧ Kb b W w') := fun W a1 a2 => calls_ok (HVl.out W a1 a2 HQ1.out) h2
  have HQ2 := hidV h2
  by_cases h3 : T.length ≤ maxO
  case neg =>
    have HQ : Hid (fl = false ∧ rt = ⟨#[]⟩) := by
      have e : fl = false := by rw [HFl.out]; exact decide_eq_false h3
      exact ⟨e, by rw [HWt.out, e]; rfl⟩
    have HC3 : Hid (∀ W, Below w.heap.size w W → Bu b W t2 → Calls Tryd.prog 29 #[.pointer (some ⟨b, 0, none⟩), vl] W fun e w' => e = .panicked pnV ∧ Kb b W w') := fun W a1 a2 => calls_no (HCh.out W a1 a2 HQ2.out) (by omega)
    clear h1 h2 h3 HNt HVl HCh
    rw [HQ.out.1, HQ.out.2]
    go_enter_defers Tryd.func17, Tryd.ntmps17
    go_upto_region 3 with fail
    rw [← hW4, ← hSB2, ← hOB2, ← hb2]
    clear hW4 hE2 hSB2 hOB2 hb2
    obtain ⟨b0, b1, b2, b3⟩ := cells4 HE.out
    go_upto_region 4 with (first
      | (go_at_call 27; refine HC1.out.mono ?_; rintro e w5 ⟨rfl, hu5, hk5⟩))
    have HU5 := hidV hu5
    have HK5 := hidV hk5
    clear hu5 hk5 b0 b1 b2 b3
    obtain ⟨b0, b1, b2, b3⟩ := cells4 (HEw.out _ HK5.out)
    go_upto_region 5 with (first
      | (go_at_call 28; refine (HC2.out _ (HWb.out _ HK5.out) HU5.out).mono ?_; rintro e w6 ⟨rfl, hu6, hk6⟩))
    have HU6 := hidV hu6
    have HK6 := hidV (HK5.out.trans hk6)
    clear hu6 hk6 b0 b1 b2 b3
    obtain ⟨b0, b1, b2, b3⟩ := cells4 (HEw.out _ HK6.out)
    go_wp2_with (first
      | (go_at_call 29; refine (HC3.out _ (HWb.out _ HK6.out) HU6.out).mono ?_; rintro e w7 ⟨rfl, hk7⟩; have HK7 := hidV (HK6.out.trans hk7); clear hk7))
    refine leaves_cons (f := 26) (args := #[.pointer (some ⟨SB, 0, none⟩), .pointer (some ⟨OB, 0, none⟩)]) (by simp) (by simp [go_sem]) ?_
    refine (catchV w.heap.size SB OB _ _ w7 (HSw.out _ HK7.out) (HOw.out _ HK7.out) (by have := HEq.out; omega) (by have := HEq.out; omega) (by have := HEq.out; omega)).mono ?_
    rintro e u' w9 ⟨rfl, rfl, hcs, hco, hbe⟩
    have HBe := hidV ((HWb.out _ HK7.out).trans hbe)
    simp [Leaves, settle, results, Tryd.results17, go_sem, hcs, hco]
    exact HBe.out
  have HC3 : Hid (∀ W, Below w.heap.size w W → Bu b W t2 → Calls Tryd.prog 29 #[.pointer (some ⟨b, 0, none⟩), vl] W fun e w' => e = .returned (.tuple #[]) ∧ Bu b w' T ∧ Kb b W w') := fun W a1 a2 => calls_ok (HCh.out W a1 a2 HQ2.out) h3
  have HQ : Hid (fl = true ∧ rt = S T) := by
    have e : fl = true := by rw [HFl.out]; exact decide_eq_true h3
    exact ⟨e, by rw [HWt.out, e]; rfl⟩
  have HF : Hid (∀ W, Bu b W T → Calls Tryd.prog 30 #[.pointer (some ⟨b, 0, none⟩)] W fun e w' => e = .returned (.string (S T)) ∧ Kb b W w') := fun W a => wfin_c b T W a HNe.out (by unfold maxO at h3; omega)
  clear h1 h2 h3 HNt HVl HCh
  rw [HQ.out.1, HQ.out.2]
  go_enter_defers Tryd.func17, Tryd.ntmps17
  go_upto_region 3 with fail
  rw [← hW4, ← hSB2, ← hOB2, ← hb2]
  clear hW4 hE2 hSB2 hOB2 hb2
  obtain ⟨b0, b1, b2, b3⟩ := cells4 HE.out
  go_upto_region 4 with (first
    | (go_at_call 27; refine HC1.out.mono ?_; rintro e w5 ⟨rfl, hu5, hk5⟩))
  have HU5 := hidV hu5
  have HK5 := hidV hk5
  clear hu5 hk5 b0 b1 b2 b3
  obtain ⟨b0, b1, b2, b3⟩ := cells4 (HEw.out _ HK5.out)
  go_upto_region 5 with (first
    | (go_at_call 28; refine (HC2.out _ (HWb.out _ HK5.out) HU5.out).mono ?_; rintro e w6 ⟨rfl, hu6, hk6⟩))
  have HU6 := hidV hu6
  have HK6 := hidV (HK5.out.trans hk6)
  clear hu6 hk6 b0 b1 b2 b3
  obtain ⟨b0, b1, b2, b3⟩ := cells4 (HEw.out _ HK6.out)
  go_upto_region 6 with (first
    | (go_at_call 29; refine (HC3.out _ (HWb.out _ HK6.out) HU6.out).mono ?_; rintro e w7 ⟨rfl, hu7, hk7⟩))
  have HU7 := hidV hu7
  have HK7 := hidV (HK6.out.trans hk7)
  clear hu7 hk7 b0 b1 b2 b3
  go_wp2_with (first
    | (go_at_call 30; refine (HF.out _ HU7.out).mono ?_; rintro e w8 ⟨rfl, hk8⟩; have HK8 := hidV (HK7.out.trans hk8); clear hk8; have hs8 := HSw.out _ HK8.out; have ho8 := HOw.out _ HK8.out; have cs8 : w8.cell? ⟨SB, 0, none⟩ = some (.string ⟨#[]⟩) := (by rw [Lib.cell_of_heap hs8]; rfl); have co8 : w8.cell? ⟨OB, 0, none⟩ = some (.bool false) := (by rw [Lib.cell_of_heap ho8]; rfl); have fs8 := Lib.frozen_of_heap hs8 0; have fo8 := Lib.frozen_of_heap ho8 0; have hn8 : OB ≠ SB := (by have := HEq.out; omega); have hx8 : (w8.setCell ⟨SB, 0, none⟩ (.string (S T))).heap[OB]? = some (.cells #[.bool false] 4 (0, 0)) := (set_far hn8).trans ho8; have co9 : (w8.setCell ⟨SB, 0, none⟩ (.string (S T))).cell? ⟨OB, 0, none⟩ = some (.bool false) := (by rw [Lib.cell_of_heap hx8]; rfl); have fo9 := Lib.frozen_of_heap hx8 0; have HS8 := hidV hs8; have HO8 := hidV ho8; clear hs8 ho8 hx8 hn8))
  have hne : SB ≠ OB := by have := HEq.out; omega
  refine leaves_cons (f := 26) (args := #[.pointer (some ⟨SB, 0, none⟩), .pointer (some ⟨OB, 0, none⟩)]) (by simp) (by simp [go_sem]) ?_
  refine (catchI SB OB _).mono ?_
  rintro e u' w9 ⟨rfl, rfl, rfl⟩
  have e1 : ((w8.setCell ⟨SB, 0, none⟩ (.string (S T))).setCell ⟨OB, 0, none⟩ (.bool true)).heap[SB]? = some (.cells #[.string (S T)] 9 (0, 0)) := (set_far hne).trans (set10 HS8.out)
  have e2 : ((w8.setCell ⟨SB, 0, none⟩ (.string (S T))).setCell ⟨OB, 0, none⟩ (.bool true)).heap[OB]? = some (.cells #[.bool true] 4 (0, 0)) := set10 ((set_far (Ne.symm hne)).trans HO8.out)
  have hbs : Below w.heap.size w ((w8.setCell ⟨SB, 0, none⟩ (.string (S T))).setCell ⟨OB, 0, none⟩ (.bool true)) := ((HWb.out _ HK8.out).setCell (p := ⟨SB, 0, none⟩) (by have := HEq.out; show w.heap.size ≤ SB; omega) _).setCell (p := ⟨OB, 0, none⟩) (by have := HEq.out; show w.heap.size ≤ OB; omega) _
  generalize (w8.setCell ⟨SB, 0, none⟩ (.string (S T))).setCell ⟨OB, 0, none⟩ (.bool true) = W at *
  have hb2 : Below W.heap.size W (W.alloc (.cells #[] 54)) := belA (Below.refl _ _) _
  have c1 : (W.alloc (.cells #[] 54)).cell? ⟨SB, 0, none⟩ = some (.string (S T)) := by rw [Lib.cell_of_heap ((hb2.block SB (hLt e1)).trans e1)]; rfl
  have c2 : (W.alloc (.cells #[] 54)).cell? ⟨OB, 0, none⟩ = some (.bool true) := by rw [Lib.cell_of_heap ((hb2.block OB (hLt e2)).trans e2)]; rfl
  have HBe := hidV (bel hbs hb2)
  simp [Leaves, settle, results, Tryd.results17, go_sem, c1, c2]
  exact HBe.out
end Go.Proofs.YtfcongggmjijfaaDoor
