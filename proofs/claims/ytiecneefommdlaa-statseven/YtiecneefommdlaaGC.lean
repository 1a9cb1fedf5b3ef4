/- Layer 20: the document's Of. -/
import Derived.Test.YtiecneefommdlaaFZ
namespace Go.Proofs.Ytiecneefommdlaa
set_option maxRecDepth 100000
open Go.RowKit Lg Nl Go.Maps Wf Fl
set_option linter.unusedVariables false
set_option linter.unusedSimpArgs false

theorem set60 {W : World} {b : Nat} {y0 y1 y2 y3 y4 y5 y : Value} {t : TypeId} (h : W.heap[b]? = some (.cells #[y0, y1, y2, y3, y4, y5] t (0, 0))) : (W.setCell ⟨b, 0, none⟩ y).heap[b]? = some (.cells #[y, y1, y2, y3, y4, y5] t (0, 0)) := by
  simp only [World.setCell]; rw [Array.getElem?_modify, if_pos rfl, h]; rfl
theorem set61 {W : World} {b : Nat} {y0 y1 y2 y3 y4 y5 y : Value} {t : TypeId} (h : W.heap[b]? = some (.cells #[y0, y1, y2, y3, y4, y5] t (0, 0))) : (W.setCell ⟨b, 1, none⟩ y).heap[b]? = some (.cells #[y0, y, y2, y3, y4, y5] t (0, 0)) := by
  simp only [World.setCell]; rw [Array.getElem?_modify, if_pos rfl, h]; rfl
theorem set64 {W : World} {b : Nat} {y0 y1 y2 y3 y4 y5 y : Value} {t : TypeId} (h : W.heap[b]? = some (.cells #[y0, y1, y2, y3, y4, y5] t (0, 0))) : (W.setCell ⟨b, 4, none⟩ y).heap[b]? = some (.cells #[y0, y1, y2, y3, y, y5] t (0, 0)) := by
  simp only [World.setCell]; rw [Array.getElem?_modify, if_pos rfl, h]; rfl
theorem set65 {W : World} {b : Nat} {y0 y1 y2 y3 y4 y5 y : Value} {t : TypeId} (h : W.heap[b]? = some (.cells #[y0, y1, y2, y3, y4, y5] t (0, 0))) : (W.setCell ⟨b, 5, none⟩ y).heap[b]? = some (.cells #[y0, y1, y2, y3, y4, y] t (0, 0)) := by
  simp only [World.setCell]; rw [Array.getElem?_modify, if_pos rfl, h]; rfl
/-- a quotient, as it is run -/
theorem run_quo (P : Program) (t : TypeId) (x y : Nat) : ∃ (f : World → Nat) (g : World → World), (∀ W, (binOp .quo t (.float .f64 x) (.float .f64 y)).run P W = .ok (.float .f64 (f W)) (g W)) ∧ (∀ W, quoP x y (f W)) ∧ (∀ W, Below W.heap.size W (g W)) ∧ (∀ W, (g W).heap = W.heap) := by
  cases h : floatBits .quo .f64 x y with
  | some r => exact ⟨fun _ => r, fun W => W, fun W => run_float_arith W .quo t .f64 _ _ r h, fun _ => Or.inl h, fun W => Below.refl _ _, fun _ => rfl⟩
  | none => exact ⟨fun W => nanW (.nanBits .f64 x y) W, fun W => W.drew, fun W => run_quo_nan t _ _ h W, fun W => Or.inr ⟨h, nan_nanW _ _ _⟩, fun W => (Below.refl _ _).drew, fun _ => rfl⟩
theorem fI_1 : fI 1 = 4607182418800017408 := by decide +kernel
theorem add_one {k : Nat} (h : k < 4398046511000) : floatBits .add .f64 (fI (k : Int)) 4607182418800017408 = some (fI ((k + 1 : Nat) : Int)) := by
  rw [← fI_1, add_fI (by omega) (by decide)]
  rfl
/-- all but one block are as they were -/
structure Ot1 (S : Nat) (W W' : World) : Prop where
  size : W'.heap.size = W.heap.size
  block : ∀ k, k ≠ S → W'.heap[k]? = W.heap[k]?
theorem Ot1.refl (S : Nat) (W : World) : Ot1 S W W := ⟨rfl, fun _ _ => rfl⟩
theorem Ot1.set {S : Nat} {W W' : World} (h : Ot1 S W W') (i : Nat) (v : Value) : Ot1 S W (W'.setCell ⟨S, i, none⟩ v) :=
  ⟨(by simp [World.setCell] : (W'.setCell ⟨S, i, none⟩ v).heap.size = W'.heap.size).trans h.size, fun k hk => (Below.heap_setCell _ _ _ _ (by show k ≠ S; exact hk)).trans (h.block k hk)⟩
theorem Ot1.draw {S : Nat} {W W' : World} (h : Ot1 S W W') : Ot1 S W W'.drew := ⟨h.size, h.block⟩
theorem Ot1.ints {S : Nat} {W W' : World} {a : Option Addr} {n c : Nat} {l : List Int} (h : IntsAt W (.slice a n c) l) (ho : Ot1 S W W') (hne : ∀ g o, a = some ⟨g, o, none⟩ → g ≠ S) : IntsAt W' (.slice a n c) l := by
  obtain ⟨ao, cap, e, hc, h⟩ := h
  injection e with e1 e2 e3
  subst e1
  refine ⟨a, cap, by rw [e2, e3], hc, ?_⟩
  rcases h with h | ⟨g, o, e4, hg, h⟩
  · exact Or.inl h
  · refine Or.inr ⟨g, o, e4, by rw [ho.size]; exact hg, fun i hi => ?_⟩
    have := h i hi
    unfold World.cell? at this ⊢
    rw [ho.block g (hne g o e4)]
    exact this
set_option maxHeartbeats 4000000 in
set_option maxRecDepth 1000000 in
theorem rOf_c (x : Wv) (vn vw vf vl : Value) (net hz : Int) (w : World) (hx : WvAt w vn vw vf vl x) (hl : x.li.length ≤ 4398046511000) (ho : okS x net hz = true) : Calls Try.prog 13 #[.agg #[vn, vw, vf, vl], .int .i64 net, .int .i64 hz] w fun e w' => ∃ r m s, e = .returned (.agg #[.int .i64 ((tmL net hz x.li).length : Nat), .float .f64 r, .float .f64 m, .float .f64 s, .float .f64 (leV (tmL net hz x.li)), .float .f64 (moV (tmL net hz x.li))]) ∧ Hid (OfV (tmL net hz x.li) hz r m s) ∧ Below w.heap.size w w' := by
  unfold okS at ho
  rw [Bool.and_eq_true, decide_eq_true_eq] at ho
  obtain ⟨hm, o1, o2, o3, o4⟩ := ho
  have HT : Hid (Tms (tmL net hz x.li)) := tms_of hm net hz
  have HTl : Hid ((tmL net hz x.li).length ≤ 4398046511000) := Nat.le_trans (tms_len net hz x.li) hl
  obtain ⟨ts, hts⟩ : ∃ ts, ts = tmL net hz x.li := ⟨_, rfl⟩
  rw [← hts] at HT HTl ⊢
  have HTS : Hid (tmL net hz x.li = ts) := hts.symm
  clear hts
  have HAw : Hid (ChAt w vl x.li) := hx.li
  obtain ⟨an, cn, rfl, q1, q2⟩ := hx.nm
  obtain ⟨al, cl, rfl, q3, q4⟩ := hx.li
  have HL : Hid (x.li.length ≤ 4398046511000) := hl
  clear hx hm q1 q2 q3 q4 hl
  generalize x.nm.length = nn at *
  generalize x.li = l at *
  have HI1 : Hid _ := Inf_c false
  have HI2 : Hid _ := Inf_c true
  have sf : ∀ (a : Addr) (x : Nat) (m : Mode) (W : World), (store a (.float .f64 x) m).run Try.prog W = stored Try.prog W a (.float .f64 x) m := fun a x m W => run_store Try.prog W a _ m rfl
  go_enter Try.func13, Try.ntmps13
  go_upto_region 3 with (first
    | (go_at_call_of 32 (Value.bool false); refine (HI1.out _).mono ?_; rintro e w' ⟨rfl, rfl⟩)
    | (go_at_call 32; refine (HI2.out _).mono ?_; rintro e w' ⟨rfl, rfl⟩))
  obtain ⟨W1, hW1⟩ : ∃ W1, W1 = ((w.alloc (.cells #[.slice an nn cn, vw, vf, .slice al l.length cl] 26)).alloc (.cells #[.int .i64 0, .float .f64 0, .float .f64 0, .float .f64 0, .float .f64 0, .float .f64 0] 35)).alloc (.cells #[.int .i64 0, .float .f64 0, .float .f64 0, .float .f64 0, .float .f64 (infW false), .float .f64 (infW true)] 35) := ⟨_, rfl⟩
  have HB1 : Hid (Below w.heap.size w W1) := by rw [hW1]; exact belA (belA (belA (Below.refl _ _) _) _) _
  have HX1 : Hid (W1.heap[w.heap.size]? = some (.cells #[.slice an nn cn, vw, vf, .slice al l.length cl] 26 (0, 0))) := by
    rw [hW1]
    exact ((belA (belA (Below.refl _ (w.alloc (.cells #[.slice an nn cn, vw, vf, .slice al l.length cl] 26))) _) _).block w.heap.size (by simp)).trans (alAt rfl)
  have HR1 : Hid (W1.heap[w.heap.size + 1]? = some (.cells #[.int .i64 0, .float .f64 0, .float .f64 0, .float .f64 0, .float .f64 0, .float .f64 0] 35 (0, 0))) := by
    rw [hW1]
    exact ((belA (Below.refl _ ((w.alloc (.cells #[.slice an nn cn, vw, vf, .slice al l.length cl] 26)).alloc (.cells #[.int .i64 0, .float .f64 0, .float .f64 0, .float .f64 0, .float .f64 0, .float .f64 0] 35))) _).block (w.heap.size + 1) (by simp)).trans (alAt (by simp))
  have HS1 : Hid (W1.heap[w.heap.size + 1 + 1]? = some (.cells #[.int .i64 0, .float .f64 0, .float .f64 0, .float .f64 0, .float .f64 (infW false), .float .f64 (infW true)] 35 (0, 0))) := by rw [hW1]; exact alAt (by simp)
  rw [← hW1]
  clear hW1
  obtain ⟨E, hE⟩ : ∃ E, E = w.heap.size := ⟨_, rfl⟩
  obtain ⟨R, hR⟩ : ∃ R, R = E + 1 := ⟨_, rfl⟩
  obtain ⟨S, hS⟩ : ∃ S, S = R + 1 := ⟨_, rfl⟩
  have HBR : Hid (w.heap.size ≤ R) := by show _ ≤ _; omega
  have HBS : Hid (w.heap.size ≤ S) := by show _ ≤ _; omega
  have HRS : Hid (R ≠ S) := by show _ ≠ _; omega
  rw [← hE] at HX1 HR1 HS1 ⊢
  rw [← hR] at HR1 HS1 ⊢
  rw [← hS] at HS1 ⊢
  clear hE hR hS
  have lE := hLt HX1.out
  have HA : Hid (ChAt W1 (.slice al l.length cl) l) := HAw.out.below HB1.out
  clear HAw HI1 HI2
  go_wp2_with fail
  go_loopg [8, 9] l.length (fun g s7 s12 wr => ∃ (i : Nat) (a : Option Addr) (n c : Nat), i ≤ l.length ∧ g = l.length - i ∧ s7 = .slice a n c ∧ s12 = .int .i64 i ∧ Hid (n = (tmL net hz (l.take i)).length) ∧ Hid (wr.ownsRow W1.heap.size 3 1 (.slice a n c) n (iC (tmL net hz (l.take i)))) ∧ Hid (Below W1.heap.size W1 wr))
  case atStart => exact ⟨0, none, 0, 0, Nat.zero_le _, rfl, rfl, rfl, rfl, World.ownsRow_nil _ _ _ _, Below.refl _ _⟩
  case round =>
    obtain ⟨i, a, n, c, hi, rfl, rfl, rfl, HN2, HR2, HBx⟩ := hrel
    obtain ⟨wx, hwx⟩ : ∃ wx, wx = wr := ⟨_, rfl⟩
    rw [← hwx] at HR2 HBx ⊢
    clear hwx
    by_cases hin : i < l.length
    · obtain ⟨gl, ol, rfl, hgl, c0, c1, c2⟩ := (HA.out.below HBx.out).at_ i hin
      have HTk : Hid (tmL net hz (l.take (i + 1)) = if tkB net hz (cA l i) = true then tmL net hz (l.take i) ++ [(cA l i).t] else tmL net hz (l.take i)) := tm_take net hz l i hin
      have HLn : Hid ((tmL net hz (l.take i)).length ≤ 4398046511000) := Nat.le_trans (tm_len net hz l i) HL.out
      have i0 : (0 : Int) ≤ (i : Int) := by omega
      have i1 : (i : Int) < (l.length : Int) := by omega
      generalize cA l i = y at *
      obtain ⟨yt, yn, yv⟩ := y
      simp only at c0 c1 c2
      have HTk2 : Hid (tkB net hz ⟨yt, yn, yv⟩ = (decide (yt ≤ hz) && (decide (net = -1) || decide (net = yn)))) := rfl
      obtain ⟨V1, hV1⟩ : ∃ V1, V1 = wx.alloc (.cells #[.int .i64 yt, .int .i64 yn, .string yv] 48) := ⟨_, rfl⟩
      have HB1 : Hid (Below wx.heap.size wx V1) := by rw [hV1]; exact belA (Below.refl _ _) _
      have HF1 : Hid (V1.heap[wx.heap.size]? = some (.cells #[.int .i64 yt, .int .i64 yn, .string yv] 48 (0, 0))) := by rw [hV1]; exact alAt rfl
      have HR1 : Hid (V1.ownsRow W1.heap.size 3 1 (.slice a n c) n (iC (tmL net hz (l.take i)))) := own_below HR2.out HB1.out
      obtain ⟨b0, b1, b2, b3⟩ := cells4 ((HBx.out.block E lE).trans HX1.out)
      have lEx := Nat.lt_of_lt_of_le lE HBx.out.size
      go_upto_region 7 with fail
      clear b0 b1 b2 b3 lEx
      rw [← hV1]
      clear hV1 c0 c1 c2
      obtain ⟨c0, c1, c2⟩ := cells3n HF1.out
      have lF := hLt HF1.out
      obtain ⟨F, hF⟩ : ∃ F, F = wx.heap.size := ⟨_, rfl⟩
      rw [← hF] at c0 c1 c2 lF HF1 ⊢
      have HBW : Hid (Below W1.heap.size W1 V1) := bel HBx.out HB1.out
      clear hF
      obtain ⟨jj, hjj⟩ := infoInt
      have HJ : Hid (Try.prog.info? 3 = some jj ∧ jj.zero = some (.int .i64 0) ∧ jj.size = 1 ∧ jj.bytes = 8) := hjj
      clear hjj
      have ways : (decide (yt ≤ hz) = false ∧ tkB net hz ⟨yt, yn, yv⟩ = false) ∨ (decide (yt ≤ hz) = true ∧ decide (net < 0) = true ∧ tkB net hz ⟨yt, yn, yv⟩ = true) ∨ (decide (yt ≤ hz) = true ∧ decide (net < 0) = false ∧ (yn == net) = true ∧ tkB net hz ⟨yt, yn, yv⟩ = true) ∨ (decide (yt ≤ hz) = true ∧ decide (net < 0) = false ∧ (yn == net) = false ∧ tkB net hz ⟨yt, yn, yv⟩ = false) := by
        rw [HTk2.out]
        have e2 : decide (net = -1) = decide (net < 0) := decide_eq_decide.2 (by omega)
        have e3 : decide (net = yn) = (yn == net) := by rw [Bool.eq_iff_iff, decide_eq_true_eq, beq_iff_eq]; exact eq_comm
        rw [e2, e3]
        cases decide (yt ≤ hz) <;> cases decide (net < 0) <;> cases (yn == net) <;> simp
      rcases ways with ⟨k1, HT⟩ | ⟨k1, k2, HT⟩ | ⟨k1, k2, k3, HT⟩ | ⟨k1, k2, k3, HT⟩
      · have HT' : Hid (tkB net hz ⟨yt, yn, yv⟩ = false) := HT
        clear HT
        go_wp2_with fail
        go_roundg (l.length - (i + 1))
        case measure => omega
        case rel =>
          have hT := HTk.out
          rw [if_neg (by rw [HT'.out]; decide)] at hT
          exact ⟨i + 1, a, n, c, hin, rfl, rfl, wrap_succ hin (Nat.le_trans HL.out (by decide)), by rw [hT]; exact HN2.out, by rw [hT]; exact HR1.out, HBW.out⟩
      · have HT' : Hid (tkB net hz ⟨yt, yn, yv⟩ = true) := HT
        clear HT
        go_wp2_with (first
          | (at_builtin; refine wpList_append_own_at _ rfl _ _ 23 rfl W1.heap.size 3 jj _ 1 8 Try.underlying23 HJ.out.1 HJ.out.2.1 HJ.out.2.2.1 HJ.out.2.2.2 rfl (by decide) _ n (iC (tmL net hz (l.take i))) rfl (own_below HR1.out (belA (Below.refl _ _) _)) ⟨V1.heap.size, 0, none⟩ 1 1 [.int .i64 yt] rfl rfl (fun j u hj => new1i _ _ _ _ rfl j u hj) (one1i yt) (app_b1 HN2.out HLn.out) (app_b2i HN2.out HLn.out) (Nat.le_trans HBW.out.size (by simp)) ?_; intro v9 w9 hown9 hgrow9 hnil9 hloc9; obtain ⟨g9, c9, rfl⟩ := own_slice1 hown9; have HO9 : Hid (w9.ownsRow W1.heap.size 3 1 (.slice (some ⟨g9, 0, none⟩) (n + 1) c9) (n + 1) (iC (tmL net hz (l.take i)) ++ [.int .i64 yt])) := hown9; have HG9 : Hid ((V1.alloc (.cells #[.int .i64 yt] 3)).grownBy w9 (Value.slice a n c).ownBlock) := hgrow9; clear hown9 hgrow9 hnil9 hloc9))
        go_roundg (l.length - (i + 1))
        case measure => omega
        case rel =>
          have hT := HTk.out
          rw [if_pos HT'.out] at hT
          have hg := HG9.out
          refine ⟨i + 1, some ⟨g9, 0, none⟩, n + 1, c9, hin, rfl, rfl, wrap_succ hin (Nat.le_trans HL.out (by decide)), ?_, ?_, ?_⟩
          · show n + 1 = _; rw [hT, List.length_append, ← HN2.out]; rfl
          · have := HO9.out; show World.ownsRow _ _ _ _ _ _ _; rw [hT, iC_app]; exact this
          · exact Gb (belA HBW.out _) hg (fun g e => (World.ownsRow.lt HR1.out g e).1)
      · have HT' : Hid (tkB net hz ⟨yt, yn, yv⟩ = true) := HT
        clear HT
        go_wp2_with (first
          | (at_builtin; refine wpList_append_own_at _ rfl _ _ 23 rfl W1.heap.size 3 jj _ 1 8 Try.underlying23 HJ.out.1 HJ.out.2.1 HJ.out.2.2.1 HJ.out.2.2.2 rfl (by decide) _ n (iC (tmL net hz (l.take i))) rfl (own_below HR1.out (belA (Below.refl _ _) _)) ⟨V1.heap.size, 0, none⟩ 1 1 [.int .i64 yt] rfl rfl (fun j u hj => new1i _ _ _ _ rfl j u hj) (one1i yt) (app_b1 HN2.out HLn.out) (app_b2i HN2.out HLn.out) (Nat.le_trans HBW.out.size (by simp)) ?_; intro v9 w9 hown9 hgrow9 hnil9 hloc9; obtain ⟨g9, c9, rfl⟩ := own_slice1 hown9; have HO9 : Hid (w9.ownsRow W1.heap.size 3 1 (.slice (some ⟨g9, 0, none⟩) (n + 1) c9) (n + 1) (iC (tmL net hz (l.take i)) ++ [.int .i64 yt])) := hown9; have HG9 : Hid ((V1.alloc (.cells #[.int .i64 yt] 3)).grownBy w9 (Value.slice a n c).ownBlock) := hgrow9; clear hown9 hgrow9 hnil9 hloc9))
        go_roundg (l.length - (i + 1))
        case measure => omega
        case rel =>
          have hT := HTk.out
          rw [if_pos HT'.out] at hT
          have hg := HG9.out
          refine ⟨i + 1, some ⟨g9, 0, none⟩, n + 1, c9, hin, rfl, rfl, wrap_succ hin (Nat.le_trans HL.out (by decide)), ?_, ?_, ?_⟩
          · show n + 1 = _; rw [hT, List.length_append, ← HN2.out]; rfl
          · have := HO9.out; show World.ownsRow _ _ _ _ _ _ _; rw [hT, iC_app]; exact this
          · exact Gb (belA HBW.out _) hg (fun g e => (World.ownsRow.lt HR1.out g e).1)
      · have HT' : Hid (tkB net hz ⟨yt, yn, yv⟩ = false) := HT
        clear HT
        go_wp2_with fail
        go_roundg (l.length - (i + 1))
        case measure => omega
        case rel =>
          have hT := HTk.out
          rw [if_neg (by rw [HT'.out]; decide)] at hT
          exact ⟨i + 1, a, n, c, hin, rfl, rfl, wrap_succ hin (Nat.le_trans HL.out (by decide)), by rw [hT]; exact HN2.out, by rw [hT]; exact HR1.out, HBW.out⟩
    · have hie : i = l.length := by omega
      have i5 : ¬ (i : Int) < (l.length : Int) := by omega
      have htk : l.take i = l := List.take_of_length_le (by omega)
      have hN := HN2.out
      rw [htk] at HR2 hN
      have HNn : Hid (n = (tmL net hz l).length) := hN
      clear hin hie htk HN2 hN
      rw [HTS.out] at HR2 HNn
      obtain rfl := HNn.out
      obtain ⟨b0, b1, b2, b3⟩ := cells4 ((HBx.out.block E lE).trans HX1.out)
      have lEx := Nat.lt_of_lt_of_le lE HBx.out.size
      have lS1 := hLt HS1.out
      have HSx : Hid (wx.heap[S]? = some (.cells #[.int .i64 0, .float .f64 0, .float .f64 0, .float .f64 0, .float .f64 (infW false), .float .f64 (infW true)] 35 (0, 0))) := (HBx.out.block S lS1).trans HS1.out
      have HRx : Hid (wx.heap[R]? = some (.cells #[.int .i64 0, .float .f64 0, .float .f64 0, .float .f64 0, .float .f64 0, .float .f64 0] 35 (0, 0))) := (HBx.out.block R (hLt HR1.out)).trans HR1.out
      have HBw : Hid (Below w.heap.size w wx) := bel HB1.out HBx.out
      have HNe : Hid (∀ g o, a = some ⟨g, o, none⟩ → g ≠ S) := fun g o e => by
        subst e
        have := (World.ownsRow.lt HR2.out g rfl).1
        omega
      have HIx : Hid (IntsAt wx (.slice a ts.length c) ts) := own_int HR2.out rfl
      clear HR2 HBx HNn HL HA HX1 HR1 HS1 HB1 lS1 o1 o2 HTS
      have lSx := hLt HSx.out
      obtain ⟨c0, c1, c2, c3, c4, c5, cf⟩ := cells6f HSx.out
      go_wp2_with fail
      clear c0 c1 c2 c3 c4 c5 cf b0 b1 b2 b3 lEx lE
      obtain ⟨W3, hW3⟩ : ∃ W3, W3 = wx.setCell ⟨S, 0, none⟩ (.int .i64 (ts.length : Int)) := ⟨_, rfl⟩
      have HS3 : Hid (W3.heap[S]? = some (.cells #[.int .i64 (ts.length : Int), .float .f64 0, .float .f64 0, .float .f64 0, .float .f64 (infW false), .float .f64 (infW true)] 35 (0, 0))) := by rw [hW3]; exact set60 HSx.out
      have HO3 : Hid (Ot1 S wx W3) := by rw [hW3]; exact (Ot1.refl S wx).set 0 _
      have HI3 : Hid (IntsAt W3 (.slice a ts.length c) ts) := Ot1.ints HIx.out HO3.out HNe.out
      have HR3 : Hid (W3.heap[R]? = some (.cells #[.int .i64 0, .float .f64 0, .float .f64 0, .float .f64 0, .float .f64 0, .float .f64 0] 35 (0, 0))) := (HO3.out.block R HRS.out).trans HRx.out
      have HB3 : Hid (Below w.heap.size w W3) := by rw [hW3]; exact HBw.out.setCell HBS.out _
      rw [← hW3]
      clear hW3 HSx HRx HIx HBw HO3 lSx
      go_loopg [11, 12, 13] ts.length (fun g s11 s12 s13 wr => ∃ (k sm le mo : Nat), k ≤ ts.length ∧ g = ts.length - k ∧ s11 = .float .f64 (fI (k : Int)) ∧ s12 = .float .f64 sm ∧ s13 = .int .i64 ((k + 1 : Nat) : Int) ∧ Hid (sm = sumF 0 ((gpL (ts.take (k + 1))).map fI)) ∧ Hid (le = leF (infW false) ((gpL (ts.take (k + 1))).map fI)) ∧ Hid (mo = moF (infW true) ((gpL (ts.take (k + 1))).map fI)) ∧ Hid (Pw sm) ∧ Hid (k = 0 ∨ k = (gpL (ts.take (k + 1))).length) ∧ Hid (Ot1 S W3 wr) ∧ Hid (Below w.heap.size w wr) ∧ Hid (wr.heap[S]? = some (.cells #[.int .i64 (ts.length : Int), .float .f64 0, .float .f64 0, .float .f64 0, .float .f64 le, .float .f64 mo] 35 (0, 0))))
      case atStart =>
        have h1 : gpL (ts.take 1) = [] := by cases ts with | nil => rfl | cons a r => rfl
        exact ⟨0, 0, _, _, Nat.zero_le _, rfl, by rw [show ((0 : Nat) : Int) = 0 from rfl, fI_0], rfl, rfl, by show _ = _; rw [h1]; rfl, by show _ = _; rw [h1]; rfl, by show _ = _; rw [h1]; rfl, Pw_0, Or.inl rfl, Ot1.refl _ _, HB3.out, HS3.out⟩
      case round =>
        obtain ⟨k, sm, le, mo, hk, rfl, rfl, rfl, rfl, HSm, HLe, HMo, HPs, HKl, HOt, HBx, HSr⟩ := hrel
        obtain ⟨wy, hwy⟩ : ∃ wy, wy = wr := ⟨_, rfl⟩
        rw [← hwy] at HOt HBx HSr ⊢
        clear hwy
        by_cases hin : k + 1 < ts.length
        · have hI := Ot1.ints HI3.out HOt.out HNe.out
          obtain ⟨gl, ol, cp, hv⟩ := hI.some_ (by omega)
          injection hv with e1 e2 e3
          subst e1
          clear e2 e3
          obtain ⟨hgl, d1⟩ := hI.cell (k + 1) hin
          obtain ⟨_, d0⟩ := hI.cell k (by omega)
          have HTk : Hid (gpL (ts.take (k + 1 + 1)) = gpL (ts.take (k + 1)) ++ [ts[k + 1] - ts[k]]) := gp_take ts k hin
          have HTm : Hid (0 ≤ ts[k + 1] ∧ ts[k + 1] ≤ 4611686018427387903 ∧ 0 ≤ ts[k] ∧ ts[k] ≤ 4611686018427387903 ∧ ts[k] ≤ ts[k + 1]) := by
            have h1 := HT.out.rg ts[k + 1] (List.getElem_mem _)
            have h2 := HT.out.rg ts[k] (List.getElem_mem _)
            exact ⟨h1.1, h1.2, h2.1, h2.2, List.pairwise_iff_getElem.1 HT.out.so k (k + 1) (by omega) hin (by omega)⟩
          have HLn : Hid ((gpL (ts.take (k + 1))).length = k) := by show _ = _; rw [gp_len, List.length_take]; omega
          obtain ⟨x1, hx1⟩ : ∃ x1, x1 = ts[k + 1] := ⟨_, rfl⟩
          obtain ⟨x0, hx0⟩ : ∃ x0, x0 = ts[k] := ⟨_, rfl⟩
          rw [← hx1] at d1 HTk HTm
          rw [← hx0] at d0 HTk HTm
          clear hx1 hx0 hI
          have hsub : wrap64 (x1 - x0) = x1 - x0 := by have := HTm.out; unfold wrap64; omega
          have hk1 := wrap_one hin HTl.out
          have i0 : (0 : Int) ≤ (k : Int) := by omega
          have i1 : (k : Int) < (ts.length : Int) := by omega
          have i2 : (0 : Int) ≤ (k : Int) + 1 := by omega
          have i3 : (k : Int) + 1 < (ts.length : Int) := by omega
          have hwk : IntKind.i64.wrap (k : Int) = (k : Int) := by rw [IntKind.wrap_i64]; have := HTl.out; omega
          have hsw : IntKind.i64.wrap (x1 - x0) = x1 - x0 := by rw [IntKind.wrap_i64]; have := HTm.out; omega
          have HPx : Hid (Pw (fI (x1 - x0))) := fI_pw (by have := HTm.out; omega)
          obtain ⟨r, hr, hrp⟩ := add_pos HPs.out HPx.out
          have HSm2 : Hid (r = sumF 0 ((gpL (ts.take (k + 1 + 1))).map fI)) := by
            show r = _
            rw [HTk.out, List.map_append, List.map_singleton, sumF_snoc, ← HSm.out, hr]; rfl
          have HLe2 : Hid ((if FloatKind.f64.format.order (fI (x1 - x0)) le == some .lt then fI (x1 - x0) else le) = leF (infW false) ((gpL (ts.take (k + 1 + 1))).map fI)) := by
            show _ = _
            rw [HTk.out, List.map_append, List.map_singleton, leF_snoc, ← HLe.out]
          have HMo2 : Hid ((if FloatKind.f64.format.order (fI (x1 - x0)) mo == some .gt then fI (x1 - x0) else mo) = moF (infW true) ((gpL (ts.take (k + 1 + 1))).map fI)) := by
            show _ = _
            rw [HTk.out, List.map_append, List.map_singleton, moF_snoc, ← HMo.out]
          have HRp : Hid (Pw r) := hrp
          have hq1 := fun W => run_float_arith (P := Try.prog) W .add 27 .f64 _ _ r hr
          have hq2 := fun W => run_float_arith (P := Try.prog) W .add 27 .f64 _ _ _ (add_one (k := k) (by have := HTl.out; omega))
          have lS := hLt HSr.out
          obtain ⟨c0, c1, c2, c3, c4, c5, cf⟩ := cells6f HSr.out
          clear hr hrp HSm HLe HMo HPx HPs HKl
          go_upto_region 15 with fail
          go_region
          obtain ⟨z, hz⟩ : ∃ z, z = floatOfInt FloatKind.f64 (x1 - x0) := ⟨_, rfl⟩
          rw [← hz]
          rw [show fI (x1 - x0) = z from hz.symm] at hq1 HLe2 HMo2
          clear hz d0 d1 c0 c1 c2 c3 c4 c5 cf
          obtain ⟨V, hV⟩ : ∃ V, V = wy.drew := ⟨_, rfl⟩
          have HSV : Hid (V.heap[S]? = some (.cells #[.int .i64 (ts.length : Int), .float .f64 0, .float .f64 0, .float .f64 0, .float .f64 le, .float .f64 mo] 35 (0, 0))) := by rw [hV]; exact HSr.out
          have HOV : Hid (Ot1 S W3 V) := by rw [hV]; exact HOt.out.draw
          have HBV : Hid (Below w.heap.size w V) := by rw [hV]; exact HBx.out.drew
          rw [← hV]
          clear hV HSr HOt HBx lS
          have lS := hLt HSV.out
          obtain ⟨c0, c1, c2, c3, c4, c5, cf⟩ := cells6f HSV.out
          cases hlt : FloatKind.f64.format.order z le == some .lt
          all_goals (
            cases hgt : FloatKind.f64.format.order z mo == some .gt
            all_goals (
              rw [hlt] at HLe2
              rw [hgt] at HMo2
              go_wp2_with fail
              go_roundg (ts.length - (k + 1))
              case measure => omega
              case rel =>
                simp only [Bool.false_eq_true, if_false, if_true] at HLe2 HMo2
                first
                | exact ⟨k + 1, r, _, _, by omega, rfl, rfl, rfl, wrap_succ hin (Nat.le_trans HTl.out (by decide)), HSm2, HLe2, HMo2, HRp, Or.inr (by rw [gp_len, List.length_take]; omega), HOV, HBV, HSV⟩
                | exact ⟨k + 1, r, _, _, by omega, rfl, rfl, rfl, wrap_succ hin (Nat.le_trans HTl.out (by decide)), HSm2, HLe2, HMo2, HRp, Or.inr (by rw [gp_len, List.length_take]; omega), HOV.out.set 5 _, HBV.out.setCell HBS.out _, set65 HSV.out⟩
                | exact ⟨k + 1, r, _, _, by omega, rfl, rfl, rfl, wrap_succ hin (Nat.le_trans HTl.out (by decide)), HSm2, HLe2, HMo2, HRp, Or.inr (by rw [gp_len, List.length_take]; omega), HOV.out.set 4 _, HBV.out.setCell HBS.out _, set64 HSV.out⟩
                | exact ⟨k + 1, r, _, _, by omega, rfl, rfl, rfl, wrap_succ hin (Nat.le_trans HTl.out (by decide)), HSm2, HLe2, HMo2, HRp, Or.inr (by rw [gp_len, List.length_take]; omega), (HOV.out.set 4 _).set 5 _, (HBV.out.setCell HBS.out _).setCell HBS.out _, set645 HSV.out⟩))
        · have htk : ts.take (k + 1) = ts := List.take_of_length_le (by omega)
          have HKn : Hid (k = (gpL ts).length) := by
            show _ = _
            rcases HKl.out with e | e
            · rw [gp_len]; omega
            · rw [htk] at e; exact e
          rw [htk] at HSm HLe HMo
          have i5 : ¬ ((k + 1 : Nat) : Int) < (ts.length : Int) := by omega
          have HLeE : Hid (le = leV ts) := HLe.out
          have HMoE : Hid (mo = moV ts) := HMo.out
          clear hin htk HKl HLe HMo hk
          obtain ⟨f1, g1, r1, q1, bq1, h1⟩ := run_quo Try.prog 27 (floatOfInt .f64 (ts.length : Int)) (floatOfInt .f64 hz)
          have HSg : Hid ((g1 wy).heap[S]? = some (.cells #[.int .i64 (ts.length : Int), .float .f64 0, .float .f64 0, .float .f64 0, .float .f64 le, .float .f64 mo] 35 (0, 0))) := by show _ = _; rw [h1]; exact HSr.out
          have HOg : Hid (Ot1 S W3 (g1 wy)) := ⟨by rw [h1]; exact HOt.out.size, fun j hj => by rw [h1]; exact HOt.out.block j hj⟩
          have HBg : Hid (Below w.heap.size w (g1 wy)) := bel HBx.out (bq1 wy)
          have HQ1 : Hid (quoP (fI (ts.length : Int)) (fI hz) (f1 wy)) := q1 wy
          obtain ⟨rr, hrr⟩ : ∃ rr, rr = f1 wy := ⟨_, rfl⟩
          have lSy := hLt HSr.out
          have lS := hLt HSg.out
          obtain ⟨y0, y1, y2, y3, y4, y5, yf⟩ := cells6f HSr.out
          obtain ⟨c0, c1, c2, c3, c4, c5, cf⟩ := cells6f HSg.out
          clear q1 bq1 h1
          go_upto_region 23 with fail
          rw [← hrr] at HQ1 ⊢
          clear hrr r1 c0 c1 c2 c3 c4 c5 cf y0 y1 y2 y3 y4 y5 yf lSy lS
          obtain ⟨W5, hW5⟩ : ∃ W5, W5 = (g1 wy).setCell ⟨S, 1, none⟩ (.float .f64 rr) := ⟨_, rfl⟩
          have HS5 : Hid (W5.heap[S]? = some (.cells #[.int .i64 (ts.length : Int), .float .f64 rr, .float .f64 0, .float .f64 0, .float .f64 le, .float .f64 mo] 35 (0, 0))) := by rw [hW5]; exact set61 HSg.out
          have HO5 : Hid (Ot1 S W3 W5) := by rw [hW5]; exact HOg.out.set 1 _
          have HB5 : Hid (Below w.heap.size w W5) := by rw [hW5]; exact HBg.out.setCell HBS.out _
          rw [← hW5]
          clear hW5 HSg HOg HBg HSr HOt HBx g1 f1
          obtain ⟨f2, g2, r2, q2, bq2, h2⟩ := run_quo Try.prog 27 sm (fI (k : Int))
          have HSg : Hid ((g2 W5).heap[S]? = some (.cells #[.int .i64 (ts.length : Int), .float .f64 rr, .float .f64 0, .float .f64 0, .float .f64 le, .float .f64 mo] 35 (0, 0))) := by show _ = _; rw [h2]; exact HS5.out
          have HOg : Hid (Ot1 S W3 (g2 W5)) := ⟨by rw [h2]; exact HO5.out.size, fun j hj => by rw [h2]; exact HO5.out.block j hj⟩
          have HBg : Hid (Below w.heap.size w (g2 W5)) := bel HB5.out (bq2 W5)
          have HQ2 : Hid (quoP sm (fI (k : Int)) (f2 W5)) := q2 W5
          obtain ⟨mm, hmm⟩ : ∃ mm, mm = f2 W5 := ⟨_, rfl⟩
          have lS := hLt HSg.out
          obtain ⟨c0, c1, c2, c3, c4, c5, cf⟩ := cells6f HSg.out
          clear q2 bq2 h2
          go_wp2_with fail
          rw [← hmm] at HQ2 ⊢
          clear hmm r2 c0 c1 c2 c3 c4 c5 cf lS
          obtain ⟨W6, hW6⟩ : ∃ W6, W6 = (g2 W5).setCell ⟨S, 2, none⟩ (.float .f64 mm) := ⟨_, rfl⟩
          have HS6 : Hid (W6.heap[S]? = some (.cells #[.int .i64 (ts.length : Int), .float .f64 rr, .float .f64 mm, .float .f64 0, .float .f64 le, .float .f64 mo] 35 (0, 0))) := by rw [hW6]; exact set62 HSg.out
          have HO6 : Hid (Ot1 S W3 W6) := by rw [hW6]; exact HOg.out.set 2 _
          have HB6 : Hid (Below w.heap.size w W6) := by rw [hW6]; exact HBg.out.setCell HBS.out _
          rw [← hW6]
          clear hW6 HSg HOg HBg HS5 HO5 HB5 g2 f2
          have HMn : Hid (gpL ts = [] ∨ nanB mm = false) := mean_num HT.out HTl.out (by have := HQ2.out; rw [HSm.out, HKn.out] at this; exact this)
          go_loopg [15, 16] ts.length (fun g s15 s16 wr => ∃ (j sq : Nat), j ≤ ts.length ∧ g = ts.length - j ∧ s15 = .float .f64 sq ∧ s16 = .int .i64 ((j + 1 : Nat) : Int) ∧ Hid (sq = sqF mm 0 ((gpL (ts.take (j + 1))).map fI)) ∧ Hid (Pw sq) ∧ Hid (Ot1 S W3 wr) ∧ Hid (Below w.heap.size w wr) ∧ Hid (wr.heap[S]? = some (.cells #[.int .i64 (ts.length : Int), .float .f64 rr, .float .f64 mm, .float .f64 0, .float .f64 le, .float .f64 mo] 35 (0, 0))))
          case atStart =>
            have h1 : gpL (ts.take 1) = [] := by cases ts with | nil => rfl | cons a r => rfl
            exact ⟨0, 0, Nat.zero_le _, rfl, rfl, rfl, by show _ = _; rw [h1]; rfl, Pw_0, HO6, HB6, HS6⟩
          case round =>
            obtain ⟨j, sq, hj, rfl, rfl, rfl, HSq, HPq, HOt, HBx, HSr⟩ := hrel
            obtain ⟨wz, hwz⟩ : ∃ wz, wz = wr := ⟨_, rfl⟩
            rw [← hwz] at HOt HBx HSr ⊢
            clear hwz
            have lS := hLt HSr.out
            obtain ⟨c0, c1, c2, c3, c4, c5, cf⟩ := cells6f HSr.out
            by_cases hin : j + 1 < ts.length
            · have hI := Ot1.ints HI3.out HOt.out HNe.out
              obtain ⟨gl, ol, cp, hv⟩ := hI.some_ (by omega)
              injection hv with e1 e2 e3
              subst e1
              clear e2 e3
              obtain ⟨hgl, d1⟩ := hI.cell (j + 1) hin
              obtain ⟨_, d0⟩ := hI.cell j (by omega)
              have HTk : Hid (gpL (ts.take (j + 1 + 1)) = gpL (ts.take (j + 1)) ++ [ts[j + 1] - ts[j]]) := gp_take ts j hin
              have HTm : Hid (0 ≤ ts[j + 1] ∧ ts[j + 1] ≤ 4611686018427387903 ∧ 0 ≤ ts[j] ∧ ts[j] ≤ 4611686018427387903 ∧ ts[j] ≤ ts[j + 1]) := by
                have h1 := HT.out.rg ts[j + 1] (List.getElem_mem _)
                have h2 := HT.out.rg ts[j] (List.getElem_mem _)
                exact ⟨h1.1, h1.2, h2.1, h2.2, List.pairwise_iff_getElem.1 HT.out.so j (j + 1) (by omega) hin (by omega)⟩
              have hnm : nanB mm = false := by
                rcases HMn.out with e | e
                · exfalso
                  have := gp_len ts
                  rw [e] at this
                  simp at this
                  omega
                · exact e
              obtain ⟨x1, hx1⟩ : ∃ x1, x1 = ts[j + 1] := ⟨_, rfl⟩
              obtain ⟨x0, hx0⟩ : ∃ x0, x0 = ts[j] := ⟨_, rfl⟩
              rw [← hx1] at d1 HTk HTm
              rw [← hx0] at d0 HTk HTm
              clear hx1 hx0 hI
              have hsub : wrap64 (x1 - x0) = x1 - x0 := by have := HTm.out; unfold wrap64; omega
              have hk1 := wrap_one hin HTl.out
              have i0 : (0 : Int) ≤ (j : Int) := by omega
              have i1 : (j : Int) < (ts.length : Int) := by omega
              have i2 : (0 : Int) ≤ (j : Int) + 1 := by omega
              have i3 : (j : Int) + 1 < (ts.length : Int) := by omega
              have hwk : IntKind.i64.wrap (j : Int) = (j : Int) := by rw [IntKind.wrap_i64]; have := HTl.out; omega
              have hsw : IntKind.i64.wrap (x1 - x0) = x1 - x0 := by rw [IntKind.wrap_i64]; have := HTm.out; omega
              obtain ⟨f, q, p1, p2, p3, p4⟩ := sqr_pos (g := x1 - x0) (by have := HTm.out; omega) (by have := HTm.out; omega) hnm
              obtain ⟨r, hr, hrp⟩ := add_pos HPq.out p4
              have HSq2 : Hid (r = sqF mm 0 ((gpL (ts.take (j + 1 + 1))).map fI)) := by
                show r = _
                rw [HTk.out, List.map_append, List.map_singleton, sqF_snoc, ← HSq.out, p3, hr]; rfl
              have HRp : Hid (Pw r) := hrp
              have hq1 := fun W => run_float_arith (P := Try.prog) W .sub 27 .f64 (floatOfInt .f64 (x1 - x0)) mm f p1
              have hq2 := fun W => run_float_arith (P := Try.prog) W .mul 27 .f64 f f q p2
              have hq3 := fun W => run_float_arith (P := Try.prog) W .add 27 .f64 sq q r hr
              clear hr hrp p1 p2 p3 p4 HSq HPq hnm
              go_upto_region 28 with fail
              go_region
              clear c0 c1 c2 c3 c4 c5 cf d0 d1
              go_wp2_with fail
              go_roundg (ts.length - (j + 1))
              case measure => omega
              case rel => exact ⟨j + 1, r, by omega, rfl, rfl, wrap_succ hin (Nat.le_trans HTl.out (by decide)), HSq2, HRp, HOt.out.draw, HBx.out.drew, HSr⟩
            · have htk : ts.take (j + 1) = ts := List.take_of_length_le (by omega)
              rw [htk] at HSq
              have i5 : ¬ ((j + 1 : Nat) : Int) < (ts.length : Int) := by omega
              have HRr : Hid (wz.heap[R]? = some (.cells #[.int .i64 0, .float .f64 0, .float .f64 0, .float .f64 0, .float .f64 0, .float .f64 0] 35 (0, 0))) := (HOt.out.block R HRS.out).trans HR3.out
              clear hin htk hj
              obtain ⟨f1, g1, r1, q1, bq1, h1⟩ := run_quo Try.prog 27 sq (fI (k : Int))
              have HSg : Hid ((g1 wz).heap[S]? = some (.cells #[.int .i64 (ts.length : Int), .float .f64 rr, .float .f64 mm, .float .f64 0, .float .f64 le, .float .f64 mo] 35 (0, 0))) := by show _ = _; rw [h1]; exact HSr.out
              have HRg : Hid ((g1 wz).heap[R]? = some (.cells #[.int .i64 0, .float .f64 0, .float .f64 0, .float .f64 0, .float .f64 0, .float .f64 0] 35 (0, 0))) := by show _ = _; rw [h1]; exact HRr.out
              have HBg : Hid (Below w.heap.size w (g1 wz)) := bel HBx.out (bq1 wz)
              have HQ3 : Hid (quoP sq (fI (k : Int)) (f1 wz)) := q1 wz
              obtain ⟨ss, hss⟩ : ∃ ss, ss = f1 wz := ⟨_, rfl⟩
              clear c0 c1 c2 c3 c4 c5 cf lS q1 bq1 h1 HSr HBx HRr
              have lS := hLt HSg.out
              obtain ⟨c0, c1, c2, c3, c4, c5, cf⟩ := cells6f HSg.out
              go_upto_region 32 with fail
              rw [← hss] at HQ3 ⊢
              clear hss r1 c0 c1 c2 c3 c4 c5 cf lS
              obtain ⟨W8, hW8⟩ : ∃ W8, W8 = (g1 wz).setCell ⟨S, 3, none⟩ (.float .f64 ss) := ⟨_, rfl⟩
              have HS8 : Hid (W8.heap[S]? = some (.cells #[.int .i64 (ts.length : Int), .float .f64 rr, .float .f64 mm, .float .f64 ss, .float .f64 le, .float .f64 mo] 35 (0, 0))) := by rw [hW8]; exact set63 HSg.out
              have HR8 : Hid (W8.heap[R]? = some (.cells #[.int .i64 0, .float .f64 0, .float .f64 0, .float .f64 0, .float .f64 0, .float .f64 0] 35 (0, 0))) := by rw [hW8]; exact ((((Ot1.refl S (g1 wz)).set 3 (.float .f64 ss)).block R HRS.out)).trans HRg.out
              have HB8 : Hid (Below w.heap.size w W8) := by rw [hW8]; exact HBg.out.setCell HBS.out _
              rw [← hW8]
              clear hW8 HSg HRg HBg g1 f1
              have lS := hLt HS8.out
              have lR := hLt HR8.out
              obtain ⟨c0, c1, c2, c3, c4, c5, cf⟩ := cells6f HS8.out
              obtain ⟨k0, k1, k2, k3, k4, k5, kf⟩ := cells6f HR8.out
              have HOV : Hid (OfV ts hz rr mm ss) := ⟨HQ1.out, by have := HQ2.out; rw [HSm.out, HKn.out] at this; exact this, by have := HQ3.out; rw [HSq.out, HKn.out] at this; exact this⟩
              go_wp2_with fail
              obtain ⟨WA, hWA⟩ : ∃ WA, WA = (((((W8.setCell ⟨R, 0, none⟩ (.int .i64 (ts.length : Int))).setCell ⟨R, 1, none⟩ (.float .f64 rr)).setCell ⟨R, 2, none⟩ (.float .f64 mm)).setCell ⟨R, 3, none⟩ (.float .f64 ss)).setCell ⟨R, 4, none⟩ (.float .f64 le)).setCell ⟨R, 5, none⟩ (.float .f64 mo) := ⟨_, rfl⟩
              have HRA : Hid (WA.heap[R]? = some (.cells #[.int .i64 (ts.length : Int), .float .f64 rr, .float .f64 mm, .float .f64 ss, .float .f64 le, .float .f64 mo] 35 (0, 0))) := by rw [hWA]; exact set66 HR8.out _ _ _ _ _ _
              have HBA : Hid (Below w.heap.size w WA) := by rw [hWA]; exact bel66 HB8.out HBR.out _ _ _ _ _ _
              rw [← hWA]
              clear hWA
              obtain ⟨z0, z1, z2, z3, z4, z5, _⟩ := cells6f HRA.out
              try simp only [Exit.inBlock, Exit.then]
              refine bodyPost_ret (v := .agg #[.int .i64 (ts.length : Int), .float .f64 rr, .float .f64 mm, .float .f64 ss, .float .f64 le, .float .f64 mo]) (by simp [results, Try.results13, go_sem, z0, z1, z2, z3, z4, z5]) rfl ?_
              exact ⟨rr, mm, ss, by rw [HLeE.out, HMoE.out], HOV, HBA.out⟩
end Go.Proofs.Ytiecneefommdlaa
