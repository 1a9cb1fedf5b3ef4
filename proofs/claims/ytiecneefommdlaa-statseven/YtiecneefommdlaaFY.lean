/- Layer 20: the landed code: Of, asked as it may be. -/
import Derived.Test.YtiecneefommdlaaFX
namespace Go.Proofs.Ytiecneefommdlaa
set_option maxRecDepth 100000
open Go.RowKit Lg Nl Go.Maps Wf Fl
set_option linter.unusedVariables false
set_option linter.unusedSimpArgs false

theorem set62 {W : World} {b : Nat} {y0 y1 y2 y3 y4 y5 y : Value} {t : TypeId} (h : W.heap[b]? = some (.cells #[y0, y1, y2, y3, y4, y5] t (0, 0))) : (W.setCell ⟨b, 2, none⟩ y).heap[b]? = some (.cells #[y0, y1, y, y3, y4, y5] t (0, 0)) := by
  simp only [World.setCell]; rw [Array.getElem?_modify, if_pos rfl, h]; rfl
theorem set63 {W : World} {b : Nat} {y0 y1 y2 y3 y4 y5 y : Value} {t : TypeId} (h : W.heap[b]? = some (.cells #[y0, y1, y2, y3, y4, y5] t (0, 0))) : (W.setCell ⟨b, 3, none⟩ y).heap[b]? = some (.cells #[y0, y1, y2, y, y4, y5] t (0, 0)) := by
  simp only [World.setCell]; rw [Array.getElem?_modify, if_pos rfl, h]; rfl
theorem set645 {W : World} {b : Nat} {y0 y1 y2 y3 y4 y5 y z : Value} {t : TypeId} (h : W.heap[b]? = some (.cells #[y0, y1, y2, y3, y4, y5] t (0, 0))) : ((W.setCell ⟨b, 4, none⟩ y).setCell ⟨b, 5, none⟩ z).heap[b]? = some (.cells #[y0, y1, y2, y3, y, z] t (0, 0)) := by
  simp only [World.setCell]; iterate 2 rw [Array.getElem?_modify, if_pos rfl]
  rw [h]; rfl
theorem set66 {w : World} {b : Nat} {x0 x1 x2 x3 x4 x5 : Value} {t : TypeId} (h : w.heap[b]? = some (.cells #[x0, x1, x2, x3, x4, x5] t (0, 0))) (y0 y1 y2 y3 y4 y5 : Value) : ((((((w.setCell ⟨b, 0, none⟩ y0).setCell ⟨b, 1, none⟩ y1).setCell ⟨b, 2, none⟩ y2).setCell ⟨b, 3, none⟩ y3).setCell ⟨b, 4, none⟩ y4).setCell ⟨b, 5, none⟩ y5).heap[b]? = some (.cells #[y0, y1, y2, y3, y4, y5] t (0, 0)) := by
  simp only [World.setCell]
  iterate 6 rw [Array.getElem?_modify, if_pos rfl]
  rw [h]; rfl
theorem bel66 {B : Nat} {a w : World} (h : Below B a w) {b : Nat} (hb : B ≤ b) (y0 y1 y2 y3 y4 y5 : Value) : Below B a ((((((w.setCell ⟨b, 0, none⟩ y0).setCell ⟨b, 1, none⟩ y1).setCell ⟨b, 2, none⟩ y2).setCell ⟨b, 3, none⟩ y3).setCell ⟨b, 4, none⟩ y4).setCell ⟨b, 5, none⟩ y5) :=
  (((((h.setCell hb _).setCell hb _).setCell hb _).setCell hb _).setCell hb _).setCell hb _
set_option maxHeartbeats 4000000 in
set_option maxRecDepth 1000000 in
theorem of_yes (x : Wv) (vn vw vf vl : Value) (net hz : Int) (w : World) (hx : WvAt w vn vw vf vl x) (hz' : Sz x) (hbd : Bd x) (hl : x.li.length ≤ 4398046511000) (ho : okS x net hz = true) : Calls Try.prog 10 #[.agg #[vn, vw, vf, vl], .int .i64 net, .int .i64 hz] w fun e w' => ∃ r m s, e = .returned (.tuple #[.agg #[.int .i64 ((tmL net hz x.li).length : Nat), .float .f64 r, .float .f64 m, .float .f64 s, .float .f64 (leV (tmL net hz x.li)), .float .f64 (moV (tmL net hz x.li))], .int .i64 0]) ∧ Hid (OfV (tmL net hz x.li) hz r m s) ∧ Below w.heap.size w w' := by
  unfold okS at ho
  rw [Bool.and_eq_true, decide_eq_true_eq] at ho
  obtain ⟨hm, o1, o2, o3, o4⟩ := ho
  have HT : Hid (Tms (tmL net hz x.li)) := tms_of hm net hz
  have HC : Hid (∀ W, Below w.heap.size w W → Calls Try.prog 23 #[.agg #[vn, vw, vf, vl]] W fun e w' => e = .returned (.int .i64 0) ∧ Below W.heap.size W w') := fun W hW => by have := check_c x vn vw vf vl W (hx.below hW) hz' hbd; rw [hm] at this; exact this
  have HTm : Hid (∀ W, Below w.heap.size w W → Calls Try.prog 24 #[vl, .int .i64 net, .int .i64 hz] W fun e w' => ∃ a n c, e = .returned (.slice a n c) ∧ Hid (n = (tmL net hz x.li).length) ∧ Hid (w'.ownsRow W.heap.size 3 1 (.slice a n c) n (iC (tmL net hz x.li))) ∧ Hid (Below W.heap.size W w')) := fun W hW => times20 x.li vl net hz W (hx.below hW).li hl
  have HTl : Hid ((tmL net hz x.li).length ≤ 4398046511000) := Nat.le_trans (tms_len net hz x.li) hl
  obtain ⟨an, cn, rfl, q1, q2⟩ := hx.nm
  obtain ⟨al, cl, rfl, q3, q4⟩ := hx.li
  clear hx hz' hbd hm q1 q2 q3 q4 hl
  generalize tmL net hz x.li = ts at *
  generalize x.nm.length = nn at *
  generalize x.li.length = nl at *
  go_enter Try.func10, Try.ntmps10
  go_upto_region 1 with fail
  obtain ⟨W1, hW1⟩ : ∃ W1, W1 = (w.alloc (.cells #[.slice an nn cn, vw, vf, .slice al nl cl] 26)).alloc (.cells #[.int .i64 0, .float .f64 0, .float .f64 0, .float .f64 0, .float .f64 0, .float .f64 0] 29) := ⟨_, rfl⟩
  have HB1 : Hid (Below w.heap.size w W1) := by rw [hW1]; exact belA (belA (Below.refl _ _) _) _
  have HX1 : Hid (W1.heap[w.heap.size]? = some (.cells #[.slice an nn cn, vw, vf, .slice al nl cl] 26 (0, 0))) := by
    rw [hW1]
    exact ((belA (Below.refl _ (w.alloc (.cells #[.slice an nn cn, vw, vf, .slice al nl cl] 26))) _).block w.heap.size (by simp)).trans (alAt rfl)
  have HR1 : Hid (W1.heap[w.heap.size + 1]? = some (.cells #[.int .i64 0, .float .f64 0, .float .f64 0, .float .f64 0, .float .f64 0, .float .f64 0] 29 (0, 0))) := by rw [hW1]; exact alAt (by simp)
  rw [← hW1]
  clear hW1
  obtain ⟨E, hE⟩ : ∃ E, E = w.heap.size := ⟨_, rfl⟩
  obtain ⟨R, hR⟩ : ∃ R, R = E + 1 := ⟨_, rfl⟩
  have HBR : Hid (w.heap.size ≤ R) := by show _ ≤ _; omega
  rw [← hE] at HX1 HR1 ⊢
  rw [← hR] at HR1 ⊢
  clear hE hR
  obtain ⟨b0, b1, b2, b3⟩ := cells4 HX1.out
  have lE := hLt HX1.out
  have lR := hLt HR1.out
  have d1 : decide (net < -1) = false := decide_eq_false (by omega)
  have d2 : decide (net ≥ (nn : Int)) = false := decide_eq_false (by omega)
  have d3 : decide (hz < 0) = false := decide_eq_false (by omega)
  have d4 : decide (hz > 4611686018427387903) = false := decide_eq_false (by omega)
  have HQ1 : Hid (∀ W, Calls Try.prog 16 #[.float .f64 (fI (ts.length : Int)), .float .f64 (fI hz)] W fun e w' => ∃ r, e = .returned (.float .f64 r) ∧ Hid (quoP (fI (ts.length : Int)) (fI hz) r) ∧ Hid (r < 18446744073709551616) ∧ Below W.heap.size W w') := fun W => rat20 _ _ W
  have sf : ∀ (a : Addr) (x : Nat) (m : Mode) (W : World), (store a (.float .f64 x) m).run Try.prog W = stored Try.prog W a (.float .f64 x) m := fun a x m W => run_store Try.prog W a _ m rfl
  go_upto_region 6 with (first
    | (go_at_call 23; refine (HC.out _ HB1.out).mono ?_; rintro e w2 ⟨rfl, hb2⟩; clear b0 b1 b2 b3; obtain ⟨b0, b1, b2, b3⟩ := cells4 ((hb2.block E lE).trans HX1.out); have lE2 := Nat.lt_of_lt_of_le lE hb2.size)
    | (go_at_call 24; refine (HTm.out _ (bel HB1.out hb2)).mono ?_; rintro e w3 ⟨at3, nt3, ct3, rfl, HN3, HO3, HB3⟩; obtain rfl := HN3.out)
    | (go_at_call 25; refine (gaps20 ts _ _ (own_int HO3.out rfl) HT.out HTl.out).mono ?_; rintro e w4 ⟨ag4, ng4, cg4, rfl, HN4, HO4, HB4⟩; obtain rfl := HN4.out)
    | (go_at_call 16; refine (HQ1.out _).mono ?_; rintro e w5 ⟨r, rfl, HP5, HL5, hb5⟩))
  have HB5 : Hid (Below W1.heap.size W1 w5) := bel (bel (bel hb2 HB3.out) HB4.out) hb5
  have HF5 : Hid (FAt w5 (.slice ag4 (gpL ts).length cg4) ((gpL ts).map fI)) := (own_fl HO4.out (List.length_map _).symm).below hb5
  have HR5 : Hid (w5.heap[R]? = some (.cells #[.int .i64 0, .float .f64 0, .float .f64 0, .float .f64 0, .float .f64 0, .float .f64 0] 29 (0, 0))) := (HB5.out.block R lR).trans HR1.out
  have HW5 : Hid (Below w.heap.size w w5) := bel HB1.out HB5.out
  clear b0 b1 b2 b3 lE lE2 lR HX1 HR1 HB1 HB5 hb2 HB3 HB4 hb5 HO3 HN3 HN4 HO4 HL5 HQ1 HTm HC d1 d2 d3 d4 o1 o2 o3 o4
  have lR5 := hLt HR5.out
  obtain ⟨W6, hW6⟩ : ∃ W6, W6 = w5.alloc (.cells #[.int .i64 (ts.length : Int), .float .f64 r, .float .f64 0, .float .f64 0, .float .f64 0, .float .f64 0] 29) := ⟨_, rfl⟩
  have HS6 : Hid (W6.heap[w5.heap.size]? = some (.cells #[.int .i64 (ts.length : Int), .float .f64 r, .float .f64 0, .float .f64 0, .float .f64 0, .float .f64 0] 29 (0, 0))) := by rw [hW6]; exact alAt rfl
  have HB6 : Hid (Below w5.heap.size w5 W6) := by rw [hW6]; exact belA (Below.refl _ _) _
  rw [← hW6]
  clear hW6
  obtain ⟨S, hS⟩ : ∃ S, S = w5.heap.size := ⟨_, rfl⟩
  have HSS : Hid (w5.heap.size ≤ S) := Nat.le_of_eq hS.symm
  rw [← hS] at HS6 ⊢
  clear hS
  have lS6 := hLt HS6.out
  have HPw : Hid (∀ x ∈ (gpL ts).map fI, Pw x) := gaps_pw HT.out
  have HLm : Hid (((gpL ts).map fI).length ≤ 4398046511000) := by show _ ≤ _; rw [List.length_map]; exact mean_len HTl.out
  have HQ2 : Hid (∀ W, Calls Try.prog 16 #[.float .f64 (sumF 0 ((gpL ts).map fI)), .float .f64 (fI ((gpL ts).length : Int))] W fun e w' => ∃ r, e = .returned (.float .f64 r) ∧ Hid (quoP (sumF 0 ((gpL ts).map fI)) (fI ((gpL ts).length : Int)) r) ∧ Hid (r < 18446744073709551616) ∧ Below W.heap.size W w') := fun W => rat20 _ _ W
  go_upto_region 7 with (first
    | (go_at_call 26; refine (sum20 ((gpL ts).map fI) _ _ (HF5.out.below HB6.out) HPw.out HLm.out).mono ?_; rintro e w' ⟨rfl, rfl⟩)
    | (go_at_call 16; refine (HQ2.out _).mono ?_; rintro e w7 ⟨m, rfl, HP7, HL7, hb7⟩; obtain ⟨c0, c1, c2, c3, c4, c5, cf⟩ := cells6f ((hb7.block S lS6).trans HS6.out); have lS7 := Nat.lt_of_lt_of_le lS6 hb7.size))
  clear c0 c1 c2 c3 c4 c5 cf
  obtain ⟨W7, hW7⟩ : ∃ W7, W7 = w7.setCell ⟨S, 2, none⟩ (.float .f64 m) := ⟨_, rfl⟩
  have HS7 : Hid (W7.heap[S]? = some (.cells #[.int .i64 (ts.length : Int), .float .f64 r, .float .f64 m, .float .f64 0, .float .f64 0, .float .f64 0] 29 (0, 0))) := by rw [hW7]; exact set62 ((hb7.block S lS6).trans HS6.out)
  have HB7 : Hid (Below w5.heap.size w5 W7) := by rw [hW7]; exact (bel HB6.out hb7).setCell HSS.out _
  rw [← hW7]
  clear hW7 hb7 lS7 HS6
  have lS := hLt HS7.out
  obtain ⟨c0, c1, c2, c3, c4, c5, cf⟩ := cells6f HS7.out
  have HQ3 : Hid (∀ W, Calls Try.prog 16 #[.float .f64 (sqF m 0 ((gpL ts).map fI)), .float .f64 (fI ((gpL ts).length : Int))] W fun e w' => ∃ r, e = .returned (.float .f64 r) ∧ Hid (quoP (sqF m 0 ((gpL ts).map fI)) (fI ((gpL ts).length : Int)) r) ∧ Hid (r < 18446744073709551616) ∧ Below W.heap.size W w') := fun W => rat20 _ _ W
  have HMn : Hid (gpL ts = [] ∨ nanB m = false) := mean_num HT.out HTl.out HP7.out
  have HGr : Hid (∀ g ∈ gpL ts, 0 ≤ g ∧ g ≤ 4611686018427387903) := gp_rng HT.out
  have HGl : Hid ((gpL ts).length ≤ 4398046511000) := mean_len HTl.out
  go_upto_region 8 with (first
    | (go_at_call 27; refine (squares20 (gpL ts) _ m _ (HF5.out.below HB7.out) HGr.out HMn.out HGl.out).mono ?_; rintro e w' ⟨rfl, rfl⟩)
    | (go_at_call 16; refine (HQ3.out _).mono ?_; rintro e w8 ⟨s, rfl, HP8, HL8, hb8⟩; clear c0 c1 c2 c3 c4 c5 cf; obtain ⟨c0, c1, c2, c3, c4, c5, cf⟩ := cells6f ((hb8.block S lS).trans HS7.out); have lS8 := Nat.lt_of_lt_of_le lS hb8.size))
  clear c0 c1 c2 c3 c4 c5 cf
  obtain ⟨W8, hW8⟩ : ∃ W8, W8 = w8.setCell ⟨S, 3, none⟩ (.float .f64 s) := ⟨_, rfl⟩
  have HS8 : Hid (W8.heap[S]? = some (.cells #[.int .i64 (ts.length : Int), .float .f64 r, .float .f64 m, .float .f64 s, .float .f64 0, .float .f64 0] 29 (0, 0))) := by rw [hW8]; exact set63 ((hb8.block S lS).trans HS7.out)
  have HB8 : Hid (Below w5.heap.size w5 W8) := by rw [hW8]; exact (bel HB7.out hb8).setCell HSS.out _
  rw [← hW8]
  clear hW8 hb8 lS8 lS HS7
  have lS := hLt HS8.out
  obtain ⟨c0, c1, c2, c3, c4, c5, cf⟩ := cells6f HS8.out
  go_upto_region 9 with (first
    | (go_at_call 28; refine (ends20 ((gpL ts).map fI) _ _ (HF5.out.below HB8.out) HPw.out HLm.out).mono ?_; rintro e w9 ⟨rfl, rfl⟩))
  clear c0 c1 c2 c3 c4 c5 cf
  obtain ⟨W9, hW9⟩ : ∃ W9, W9 = (w9.setCell ⟨S, 4, none⟩ (.float .f64 (leF (infW false) ((gpL ts).map fI)))).setCell ⟨S, 5, none⟩ (.float .f64 (moF (infW true) ((gpL ts).map fI))) := ⟨_, rfl⟩
  have HS9 : Hid (W9.heap[S]? = some (.cells #[.int .i64 (ts.length : Int), .float .f64 r, .float .f64 m, .float .f64 s, .float .f64 (leV ts), .float .f64 (moV ts)] 29 (0, 0))) := by rw [hW9]; exact set645 HS8.out
  have HB9 : Hid (Below w5.heap.size w5 W9) := by rw [hW9]; exact (HB8.out.setCell HSS.out _).setCell HSS.out _
  rw [← hW9]
  clear hW9 lS HS8
  have lS := hLt HS9.out
  have HR9 : Hid (W9.heap[R]? = some (.cells #[.int .i64 0, .float .f64 0, .float .f64 0, .float .f64 0, .float .f64 0, .float .f64 0] 29 (0, 0))) := (HB9.out.block R lR5).trans HR5.out
  have lR := hLt HR9.out
  obtain ⟨c0, c1, c2, c3, c4, c5, cf⟩ := cells6f HS9.out
  obtain ⟨k0, k1, k2, k3, k4, k5, kf⟩ := cells6f HR9.out
  have HOV : Hid (OfV ts hz r m s) := ⟨HP5.out, HP7.out, HP8.out⟩
  have HBW : Hid (Below w.heap.size w W9) := bel HW5.out HB9.out
  clear HP5 HP7 HP8 HQ2 HQ3 HMn HGr HGl HPw HLm HF5 HB6 HB7 HB8 HB9 HR5 HW5
  go_wp2
  obtain ⟨WA, hWA⟩ : ∃ WA, WA = (((((W9.setCell ⟨R, 0, none⟩ (.int .i64 (ts.length : Int))).setCell ⟨R, 1, none⟩ (.float .f64 r)).setCell ⟨R, 2, none⟩ (.float .f64 m)).setCell ⟨R, 3, none⟩ (.float .f64 s)).setCell ⟨R, 4, none⟩ (.float .f64 (leV ts))).setCell ⟨R, 5, none⟩ (.float .f64 (moV ts)) := ⟨_, rfl⟩
  have HRA : Hid (WA.heap[R]? = some (.cells #[.int .i64 (ts.length : Int), .float .f64 r, .float .f64 m, .float .f64 s, .float .f64 (leV ts), .float .f64 (moV ts)] 29 (0, 0))) := by rw [hWA]; exact set66 HR9.out _ _ _ _ _ _
  have HBA : Hid (Below w.heap.size w WA) := by rw [hWA]; exact bel66 HBW.out HBR.out _ _ _ _ _ _
  rw [← hWA]
  clear hWA
  obtain ⟨z0, z1, z2, z3, z4, z5, _⟩ := cells6f HRA.out
  try simp only [Exit.inBlock, Exit.then]
  refine bodyPost_ret (v := .tuple #[.agg #[.int .i64 (ts.length : Int), .float .f64 r, .float .f64 m, .float .f64 s, .float .f64 (leV ts), .float .f64 (moV ts)], .int .i64 0]) (by simp [results, Try.results10, go_sem, z0, z1, z2, z3, z4, z5]) rfl ?_
  exact ⟨r, m, s, rfl, HOV, HBA.out⟩
end Go.Proofs.Ytiecneefommdlaa
