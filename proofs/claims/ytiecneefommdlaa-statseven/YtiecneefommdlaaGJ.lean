/- Layer 20: StatsEven. -/
import Derived.Test.YtiecneefommdlaaGI
namespace Go.Proofs.Ytiecneefommdlaa
set_option maxRecDepth 100000
open Go.RowKit Lg Nl Go.Maps Wf Fl
set_option linter.unusedVariables false
set_option linter.unusedSimpArgs false

theorem chs_atE : ∀ (l : List Ch) (i : Nat) (hi : i < l.length) (j : Nat) (u : Value), (chC l[i])[j]? = some u → (chs l)[i * 3 + j]? = some u
  | [], i, hi, _, _, _ => by simp at hi
  | c :: cs, 0, _, j, u, h => by
    have hj : j < 3 := (List.getElem?_eq_some_iff.1 h).1
    show (chC c ++ chs cs)[0 * 3 + j]? = some u
    rw [Nat.zero_mul, Nat.zero_add, List.getElem?_append_left (by show j < 3; exact hj)]
    exact h
  | c :: cs, i + 1, hi, j, u, h => by
    have ih := chs_atE cs i (by simpa using hi) j u h
    show (chC c ++ chs cs)[(i + 1) * 3 + j]? = some u
    rw [List.getElem?_append_right (by show 3 ≤ _; omega)]
    rw [show (i + 1) * 3 + j - (chC c).length = i * 3 + j from by show (i + 1) * 3 + j - 3 = _; omega]
    exact ih
theorem own_chsE {w : World} {B : Nat} {v : Value} {l : List Ch} (h : w.ownsRow B 48 3 v l.length (chs l)) : ChAt w v l := by
  rcases h.2 with ⟨rfl, hn⟩ | ⟨g, cap, cur, rfl, hg, hh, hc, _, _, _⟩
  · exact ⟨none, 0, by rw [hn], ⟨by omega, fun _ => rfl⟩, Or.inl (List.eq_nil_of_length_eq_zero hn)⟩
  · refine ⟨_, cap, rfl, ⟨hc, fun e => by cases e⟩, Or.inr ⟨g, 0, rfl, hLt hh, fun i hi j u hu => ?_⟩⟩
    have hj : j < 3 := (List.getElem?_eq_some_iff.1 hu).1
    rw [Nat.zero_add, h.cellAt (i * 3 + j) (by omega)]
    exact chs_atE l i hi j u hu
theorem GbB {B : Nat} {w W W' : World} {row : Option Nat} (h : Below B w W) (hB : B ≤ W.heap.size) (hg : W.grownBy W' row) (hr : ∀ g, row = some g → B ≤ g) : Below B w W' :=
  ⟨hg.os.trans h.os, hg.tape.trans h.tape, hg.output.trans h.output, Nat.le_trans h.size hg.size, fun k hk => (hg.block k (Nat.lt_of_lt_of_le hk hB) (fun e => by have := hr k e.symm; omega)).trans (h.block k hk)⟩
theorem set43e {W : World} {b : Nat} {y0 y1 y2 y3 y : Value} {t : TypeId} (h : W.heap[b]? = some (.cells #[y0, y1, y2, y3] t (0, 0))) : (W.setCell ⟨b, 3, none⟩ y).heap[b]? = some (.cells #[y0, y1, y2, y] t (0, 0)) := by
  simp only [World.setCell]; rw [Array.getElem?_modify, if_pos rfl, h]; rfl
theorem str1 {w : World} {b : Nat} {s : ByteArray} {t : TypeId} (h : w.heap[b]? = some (.cells #[.string s] t (0, 0))) : StrAt w (.slice (some ⟨b, 0, none⟩) 1 1) [s] :=
  ⟨_, 1, rfl, ⟨Nat.le_refl _, fun e => by cases e⟩, Or.inr ⟨b, 0, rfl, hLt h, fun i hi => by
    have : i = 0 := by simp at hi; omega
    subst this
    rw [Lib.cell_of_heap h]; rfl⟩⟩
theorem int1 {w : World} {b : Nat} {z : Int} {t : TypeId} (h : w.heap[b]? = some (.cells #[.int .i64 z] t (0, 0))) : IntsAt w (.slice (some ⟨b, 0, none⟩) 1 1) [z] :=
  ⟨_, 1, rfl, Nat.le_refl _, Or.inr ⟨b, 0, rfl, hLt h, fun i hi => by
    have : i = 0 := by simp at hi; omega
    subst this
    rw [Lib.cell_of_heap h]; rfl⟩⟩
theorem chs_snoc (d i : Nat) : chs (evL d (i + 1)) = chs (evL d i) ++ chC (evC d i) := by rw [evL_succ, chs_app]; simp [chs]
theorem evW_sz (d n : Nat) (hn : n ≤ 65) : Sz (evW d n) := by
  refine ⟨fun s h => ?_, fun s h => ?_, fun c h => ?_, ?_⟩
  · rcases List.mem_cons.1 h with rfl | h
    · decide
    · cases h
  · rcases List.mem_cons.1 h with rfl | h
    · decide
    · cases h
  · obtain ⟨i, hi, rfl⟩ := List.mem_map.1 h
    show (evV i).size ≤ _
    have := (evV_vec i).2.1
    unfold maxLen
    omega
  · show (evL d n).length ≤ _
    rw [evL_len]; omega
theorem evW_bd (d n : Nat) (hn : n ≤ 65) : Bd (evW d n) := ⟨by show 1 ≤ 140737488355328; decide, by show 1 ≤ 140737488355328; decide, by show 1 ≤ 140737488355328; decide, by show (evL d n).length ≤ _; rw [evL_len]; omega⟩
/-- Of at such a waveform -/
theorem ev_call {d k : Nat} (hd : 0 < d) (hd2 : d ≤ 65536) (hk : 0 < k) (hk2 : k ≤ 64) (vn vw vf vl : Value) (W : World) (h : WvAt W vn vw vf vl (evW d (k + 1))) : Calls Try.prog 10 #[.agg #[vn, vw, vf, vl], .int .i64 0, .int .i64 ((d * (k + 1) : Nat) : Int)] W fun e w' => ∃ r, e = .returned (.tuple #[.agg #[.int .i64 ((k + 1 : Nat) : Int), .float .f64 r, .float .f64 (floatOfInt .f64 (d : Int)), .float .f64 0, .float .f64 (floatOfInt .f64 (d : Int)), .float .f64 (floatOfInt .f64 (d : Int))], .int .i64 0]) ∧ Hid (floatBits .quo .f64 4607182418800017408 (floatOfInt .f64 (d : Int)) = some r ∧ Pw r) ∧ Below W.heap.size W w' := by
  have hb : d * (k + 1) ≤ 65536 * 65 := Nat.mul_le_mul hd2 (by omega)
  refine (of_yes (evW d (k + 1)) vn vw vf vl 0 ((d * (k + 1) : Nat) : Int) W h (evW_sz d (k + 1) (by omega)) (evW_bd d (k + 1) (by omega)) (by show (evL d (k + 1)).length ≤ _; rw [evL_len]; omega) (ev_ok hd (by omega))).mono ?_
  rintro e w' ⟨r, m, s, rfl, HV, hb'⟩
  rw [show (evW d (k + 1)).li = evL d (k + 1) from rfl, ev_tm] at HV ⊢
  obtain ⟨h1, h2, h3, h4⟩ := ev_of hd hd2 hk (by omega) HV.out
  rw [ev_le hd2 hk, ev_mo hd2 hk, ev_len, h1, h2]
  exact ⟨r, rfl, ⟨h3, h4⟩, hb'⟩
theorem ev_callN {d n : Nat} (hd : 0 < d) (hd2 : d ≤ 65536) (hk : 2 ≤ n) (hk2 : n ≤ 65) (vn vw vf vl : Value) (W : World) (h : WvAt W vn vw vf vl (evW d n)) : Calls Try.prog 10 #[.agg #[vn, vw, vf, vl], .int .i64 0, .int .i64 ((d * n : Nat) : Int)] W fun e w' => ∃ r, e = .returned (.tuple #[.agg #[.int .i64 (n : Int), .float .f64 r, .float .f64 (floatOfInt .f64 (d : Int)), .float .f64 0, .float .f64 (floatOfInt .f64 (d : Int)), .float .f64 (floatOfInt .f64 (d : Int))], .int .i64 0]) ∧ Hid (floatBits .quo .f64 4607182418800017408 (floatOfInt .f64 (d : Int)) = some r ∧ Pw r) ∧ Below W.heap.size W w' := by
  obtain ⟨k, rfl⟩ : ∃ k, n = k + 1 := ⟨n - 1, by omega⟩
  exact ev_call hd hd2 (by omega) (by omega) vn vw vf vl W h
set_option maxHeartbeats 4000000 in
set_option maxRecDepth 1000000 in
theorem StatsEven_c (many apart : Int) (w : World) : Calls Try.prog 7 #[.int .i64 many, .int .i64 apart] w fun e w' => e = .returned (.bool true) ∧ Below w.heap.size w w' := by
  have HA : Hid Aw20C := aw20
  obtain ⟨n, hk, hk0, hk1⟩ : ∃ n : Nat, wrap64 (2 + bits .and .i64 many 63) = (n : Int) ∧ 2 ≤ n ∧ n ≤ 65 := by
    have e : bits .and .i64 many 63 = many % 64 := maskF many 6 63 (by decide) (by decide)
    rw [e]
    refine ⟨(2 + many % 64).toNat, ?_, ?_, ?_⟩ <;> first | omega | (unfold wrap64; omega)
  obtain ⟨d, hd, hd0, hd1⟩ : ∃ d : Nat, wrap64 (1 + bits .and .i64 apart 65535) = (d : Int) ∧ 0 < d ∧ d ≤ 65536 := by
    have e : bits .and .i64 apart 65535 = apart % 65536 := maskF apart 16 65535 (by decide) (by decide)
    rw [e]
    refine ⟨(1 + apart % 65536).toNat, ?_, ?_, ?_⟩ <;> first | omega | (unfold wrap64; omega)
  have sf : ∀ (a : Addr) (x : Nat) (m : Mode) (W : World), (store a (.float .f64 x) m).run Try.prog W = stored Try.prog W a (.float .f64 x) m := fun a x m W => run_store Try.prog W a _ m rfl
  go_enter Try.func7, Try.ntmps7
  go_upto_region 3 with fail
  rw [hk, hd]
  clear hk hd
  obtain ⟨W1, hW1⟩ : ∃ W1, W1 = (((w.alloc (.cells #[.string ⟨#[97]⟩] 9)).alloc (.cells #[.int .i64 1] 3)).alloc (.cells #[.string ⟨#[120]⟩] 9)).alloc (.cells #[.slice (some ⟨w.heap.size, 0, none⟩) 1 1, .slice (some ⟨w.heap.size + 1, 0, none⟩) 1 1, .slice (some ⟨w.heap.size + 1 + 1, 0, none⟩) 1 1, .slice none 0 0] 26) := ⟨_, rfl⟩
  have HB1 : Hid (Below w.heap.size w W1) := by rw [hW1]; exact belA (belA (belA (belA (Below.refl _ _) _) _) _) _
  have HN1 : Hid (W1.heap[w.heap.size]? = some (.cells #[.string ⟨#[97]⟩] 9 (0, 0))) := by rw [hW1]; exact (alOld (by simp only [size_al]; omega)).trans ((alOld (by simp only [size_al]; omega)).trans ((alOld (by simp only [size_al]; omega)).trans (alAt rfl)))
  have HD1 : Hid (W1.heap[w.heap.size + 1]? = some (.cells #[.int .i64 1] 3 (0, 0))) := by rw [hW1]; exact (alOld (by simp only [size_al]; omega)).trans ((alOld (by simp only [size_al]; omega)).trans (alAt (by simp only [size_al])))
  have HF1 : Hid (W1.heap[w.heap.size + 1 + 1]? = some (.cells #[.string ⟨#[120]⟩] 9 (0, 0))) := by rw [hW1]; exact (alOld (by simp only [size_al]; omega)).trans (alAt (by simp only [size_al]))
  have HW1 : Hid (W1.heap[w.heap.size + 1 + 1 + 1]? = some (.cells #[.slice (some ⟨w.heap.size, 0, none⟩) 1 1, .slice (some ⟨w.heap.size + 1, 0, none⟩) 1 1, .slice (some ⟨w.heap.size + 1 + 1, 0, none⟩) 1 1, .slice none 0 0] 26 (0, 0))) := by rw [hW1]; exact alAt (by simp)
  rw [← hW1]
  clear hW1
  obtain ⟨N0, hN0⟩ : ∃ N0, N0 = w.heap.size := ⟨_, rfl⟩
  obtain ⟨N1, hN1⟩ : ∃ N1, N1 = N0 + 1 := ⟨_, rfl⟩
  obtain ⟨N2, hN2⟩ : ∃ N2, N2 = N1 + 1 := ⟨_, rfl⟩
  obtain ⟨B, hB⟩ : ∃ B, B = N2 + 1 := ⟨_, rfl⟩
  rw [← hN0] at HN1 HD1 HF1 HW1 ⊢
  rw [← hN1] at HD1 HF1 HW1 ⊢
  rw [← hN2] at HF1 HW1 ⊢
  rw [← hB] at HW1 ⊢
  have HLt : Hid (N0 < B ∧ N1 < B ∧ N2 < B ∧ w.heap.size ≤ B) := ⟨by omega, by omega, by omega, by omega⟩
  clear hN0 hN1 hN2 hB
  have lB := hLt HW1.out
  go_wp2_with fail
  go_loopg [8] n (fun g s8 wr => ∃ (i : Nat) (a : Option Addr) (c : Nat), i ≤ n ∧ g = n - i ∧ s8 = .int .i64 i ∧ Hid (Below B W1 wr) ∧ Hid (wr.heap[B]? = some (.cells #[.slice (some ⟨N0, 0, none⟩) 1 1, .slice (some ⟨N1, 0, none⟩) 1 1, .slice (some ⟨N2, 0, none⟩) 1 1, .slice a i c] 26 (0, 0))) ∧ Hid (wr.ownsRow W1.heap.size 48 3 (.slice a i c) i (chs (evL d i))))
  case atStart => exact ⟨0, none, 0, Nat.zero_le _, rfl, rfl, Below.refl _ _, HW1, World.ownsRow_nil _ _ _ _⟩
  case round =>
    obtain ⟨i, a, c, hi, rfl, rfl, HBx, HWx, HRx⟩ := hrel
    obtain ⟨wx, hwx⟩ : ∃ wx, wx = wr := ⟨_, rfl⟩
    rw [← hwx] at HBx HWx HRx ⊢
    clear hwx
    have lBx := hLt HWx.out
    obtain ⟨b0, b1, b2, b3⟩ := cells4 HWx.out
    have bf := fun j => Lib.frozen_of_heap HWx.out j
    by_cases hin : i < n
    · have i1 : (i : Int) < (n : Int) := by omega
      have hmul : wrap64 ((d : Int) * (i : Int)) = ((d * i : Nat) : Int) := by
        have h1 : d * i ≤ 65536 * 65 := Nat.mul_le_mul hd1 (by omega)
        rw [← Int.natCast_mul]
        generalize d * i = z at *
        unfold wrap64; omega
      have hbit : bits .and .i64 (i : Int) 1 = ((i % 2 : Nat) : Int) := by
        have e : bits .and .i64 (i : Int) 1 = (i : Int) % 2 := maskF (i : Int) 1 1 (by decide) (by decide)
        rw [e]
        omega
      have HLn : Hid (i ≤ 4398046511000) := by show _ ≤ _; omega
      obtain ⟨jj, hjj⟩ := infoCh
      have HJ : Hid (Try.prog.info? 48 = some jj ∧ jj.zero = some (.agg #[.int .i64 0, .int .i64 0, .string ⟨#[]⟩]) ∧ jj.size = 3 ∧ jj.bytes = 32) := hjj
      clear hjj
      have HCs : Hid (chs (evL d (i + 1)) = chs (evL d i) ++ chC (evC d i)) := chs_snoc d i
      have HSz : Hid (W1.heap.size ≤ wx.heap.size) := HBx.out.size
      rcases Nat.mod_two_eq_zero_or_one i with hpar | hpar
      · have HEv : Hid (chC (evC d i) = [.int .i64 ((d * i : Nat) : Int), .int .i64 0, .string ⟨#[48]⟩]) := by show _ = _; unfold evC evV; rw [if_neg (by omega)]; rfl
        rw [hpar] at hbit
        go_wp2_with (first
          | (at_builtin; refine wpList_append_own_at _ rfl _ _ 24 rfl W1.heap.size 48 jj _ 3 32 Try.underlying24 HJ.out.1 HJ.out.2.1 HJ.out.2.2.1 HJ.out.2.2.2 rfl (by decide) _ i (chs (evL d i)) rfl (HRx.out.alloc _) ⟨wx.heap.size, 0, none⟩ 1 1 [.int .i64 ((d * i : Nat) : Int), .int .i64 0, .string ⟨#[48]⟩] rfl rfl (fun j u hj => new3 _ ⟨((d * i : Nat) : Int), 0, ⟨#[48]⟩⟩ 48 _ rfl j u hj) (one3 ⟨((d * i : Nat) : Int), 0, ⟨#[48]⟩⟩) (app_b1 rfl HLn.out) (app_b2 rfl HLn.out) (Nat.le_trans HSz.out (by simp)) ?_; intro v9 w9 hown9 hgrow9 hnil9 hloc9; obtain ⟨g9, c9, rfl⟩ := own_slice1 hown9; have HO9 : Hid (w9.ownsRow W1.heap.size 48 3 (.slice (some ⟨g9, 0, none⟩) (i + 1) c9) (i + 1) (chs (evL d i) ++ [.int .i64 ((d * i : Nat) : Int), .int .i64 0, .string ⟨#[48]⟩])) := hown9; have HG9 : Hid ((wx.alloc (.cells #[.int .i64 ((d * i : Nat) : Int), .int .i64 0, .string ⟨#[48]⟩] 48)).grownBy w9 (Value.slice a i c).ownBlock) := hgrow9; clear hown9 hgrow9 hnil9 hloc9; have HGB : Hid (Below B W1 w9) := GbB ((HBx.out).alloc (Nat.le_trans (Nat.le_of_lt lB) HSz.out) _) (by simp; omega) HG9.out (fun g e => by have := (World.ownsRow.lt HRx.out g e).1; omega); have HW9 : Hid (w9.heap[B]? = some (.cells #[.slice (some ⟨N0, 0, none⟩) 1 1, .slice (some ⟨N1, 0, none⟩) 1 1, .slice (some ⟨N2, 0, none⟩) 1 1, .slice a i c] 26 (0, 0))) := (HG9.out.block B (by simp; omega) (fun e => by have := (World.ownsRow.lt HRx.out B e.symm).1; omega)).trans ((alOld lBx).trans HWx.out); have lB9 := hLt HW9.out; have bf9 := fun j => Lib.frozen_of_heap HW9.out j; obtain ⟨e0, e1, e2, e3⟩ := cells4 HW9.out))
        go_roundg (n - (i + 1))
        case measure => omega
        case rel =>
          have ho := HO9.out
          refine ⟨i + 1, some ⟨g9, 0, none⟩, c9, hin, rfl, (by first | rfl | exact wrap_succ hin (by omega)), belSetV HGB.out (Nat.le_refl _), set43e HW9.out, ?_⟩
          show World.ownsRow _ _ _ _ _ _ _
          rw [HCs.out, HEv.out]
          exact ownsRow_setCell_below ho lB _
      · have HEv : Hid (chC (evC d i) = [.int .i64 ((d * i : Nat) : Int), .int .i64 0, .string ⟨#[49]⟩]) := by show _ = _; unfold evC evV; rw [if_pos hpar]; rfl
        rw [hpar] at hbit
        go_wp2_with (first
          | (at_builtin; refine wpList_append_own_at _ rfl _ _ 24 rfl W1.heap.size 48 jj _ 3 32 Try.underlying24 HJ.out.1 HJ.out.2.1 HJ.out.2.2.1 HJ.out.2.2.2 rfl (by decide) _ i (chs (evL d i)) rfl (HRx.out.alloc _) ⟨wx.heap.size, 0, none⟩ 1 1 [.int .i64 ((d * i : Nat) : Int), .int .i64 0, .string ⟨#[49]⟩] rfl rfl (fun j u hj => new3 _ ⟨((d * i : Nat) : Int), 0, ⟨#[49]⟩⟩ 48 _ rfl j u hj) (one3 ⟨((d * i : Nat) : Int), 0, ⟨#[49]⟩⟩) (app_b1 rfl HLn.out) (app_b2 rfl HLn.out) (Nat.le_trans HSz.out (by simp)) ?_; intro v9 w9 hown9 hgrow9 hnil9 hloc9; obtain ⟨g9, c9, rfl⟩ := own_slice1 hown9; have HO9 : Hid (w9.ownsRow W1.heap.size 48 3 (.slice (some ⟨g9, 0, none⟩) (i + 1) c9) (i + 1) (chs (evL d i) ++ [.int .i64 ((d * i : Nat) : Int), .int .i64 0, .string ⟨#[49]⟩])) := hown9; have HG9 : Hid ((wx.alloc (.cells #[.int .i64 ((d * i : Nat) : Int), .int .i64 0, .string ⟨#[49]⟩] 48)).grownBy w9 (Value.slice a i c).ownBlock) := hgrow9; clear hown9 hgrow9 hnil9 hloc9; have HGB : Hid (Below B W1 w9) := GbB ((HBx.out).alloc (Nat.le_trans (Nat.le_of_lt lB) HSz.out) _) (by simp; omega) HG9.out (fun g e => by have := (World.ownsRow.lt HRx.out g e).1; omega); have HW9 : Hid (w9.heap[B]? = some (.cells #[.slice (some ⟨N0, 0, none⟩) 1 1, .slice (some ⟨N1, 0, none⟩) 1 1, .slice (some ⟨N2, 0, none⟩) 1 1, .slice a i c] 26 (0, 0))) := (HG9.out.block B (by simp; omega) (fun e => by have := (World.ownsRow.lt HRx.out B e.symm).1; omega)).trans ((alOld lBx).trans HWx.out); have lB9 := hLt HW9.out; have bf9 := fun j => Lib.frozen_of_heap HW9.out j; obtain ⟨e0, e1, e2, e3⟩ := cells4 HW9.out))
        go_roundg (n - (i + 1))
        case measure => omega
        case rel =>
          have ho := HO9.out
          refine ⟨i + 1, some ⟨g9, 0, none⟩, c9, hin, rfl, (by first | rfl | exact wrap_succ hin (by omega)), belSetV HGB.out (Nat.le_refl _), set43e HW9.out, ?_⟩
          show World.ownsRow _ _ _ _ _ _ _
          rw [HCs.out, HEv.out]
          exact ownsRow_setCell_below ho lB _
    · obtain rfl : i = n := by omega
      have i5 : ¬ (i : Int) < (i : Int) := by omega
      have hmul : wrap64 ((d : Int) * (i : Int)) = ((d * i : Nat) : Int) := by
        have h1 : d * i ≤ 65536 * 65 := Nat.mul_le_mul hd1 (by omega)
        rw [← Int.natCast_mul]
        generalize d * i = z at *
        unfold wrap64; omega
      obtain ⟨l0, l1, l2, l3⟩ := HLt.out
      have HWv : Hid (WvAt wx (.slice (some ⟨N0, 0, none⟩) 1 1) (.slice (some ⟨N1, 0, none⟩) 1 1) (.slice (some ⟨N2, 0, none⟩) 1 1) (.slice a i c) (evW d i)) :=
        ⟨str1 ((HBx.out.block N0 l0).trans HN1.out), int1 ((HBx.out.block N1 l1).trans HD1.out), str1 ((HBx.out.block N2 l2).trans HF1.out), own_chsE (l := evL d i) (by rw [evL_len]; exact HRx.out)⟩
      have HBw : Hid (Below w.heap.size w wx) := HB1.out.trans (HBx.out.mono l3)
      have HOf : Hid (∀ W, WvAt W (.slice (some ⟨N0, 0, none⟩) 1 1) (.slice (some ⟨N1, 0, none⟩) 1 1) (.slice (some ⟨N2, 0, none⟩) 1 1) (.slice a i c) (evW d i) → Calls Try.prog 10 #[.agg #[.slice (some ⟨N0, 0, none⟩) 1 1, .slice (some ⟨N1, 0, none⟩) 1 1, .slice (some ⟨N2, 0, none⟩) 1 1, .slice a i c], .int .i64 0, .int .i64 ((d * i : Nat) : Int)] W fun e w' => ∃ r, e = .returned (.tuple #[.agg #[.int .i64 (i : Int), .float .f64 r, .float .f64 (floatOfInt .f64 (d : Int)), .float .f64 0, .float .f64 (floatOfInt .f64 (d : Int)), .float .f64 (floatOfInt .f64 (d : Int))], .int .i64 0]) ∧ Hid (floatBits .quo .f64 4607182418800017408 (floatOfInt .f64 (d : Int)) = some r ∧ Pw r) ∧ Below W.heap.size W w') := fun W h => ev_callN hd0 hd1 hk0 hk1 _ _ _ _ W h
      clear l0 l1 l2 l3 HLt HN1 HD1 HF1 HBx HWx HRx
      generalize ((d * i : Nat) : Int) = z at *
      generalize evW d i = X at *
      go_upto_region 11 with (first
        | (go_at_call 10; refine (HOf.out _ HWv.out).mono ?_; rintro e w4 ⟨r, rfl, HQr, hb4⟩))
      obtain ⟨hq0, hpw⟩ := HQr.out
      have HPF : Hid (Pw (floatOfInt .f64 (d : Int))) := fI_pw (k := (d : Int)) (by omega)
      have eF : (FloatKind.f64.format.order (floatOfInt .f64 (d : Int)) (floatOfInt .f64 (d : Int)) == some .eq) = true := ord_self HPF.out
      have eR : (FloatKind.f64.format.order r r == some .eq) = true := ord_self hpw
      have e0 : (FloatKind.f64.format.order 0 0 == some .eq) = true := ord_self Pw_0
      have hq := fun W => run_float_arith (P := Try.prog) W .quo 27 .f64 4607182418800017408 (floatOfInt .f64 (d : Int)) r hq0
      obtain ⟨W5, hW5⟩ : ∃ W5, W5 = w4.alloc (.cells #[.int .i64 (i : Int), .float .f64 r, .float .f64 (floatOfInt .f64 (d : Int)), .float .f64 0, .float .f64 (floatOfInt .f64 (d : Int)), .float .f64 (floatOfInt .f64 (d : Int))] 29) := ⟨_, rfl⟩
      have HT5 : Hid (W5.heap[w4.heap.size]? = some (.cells #[.int .i64 (i : Int), .float .f64 r, .float .f64 (floatOfInt .f64 (d : Int)), .float .f64 0, .float .f64 (floatOfInt .f64 (d : Int)), .float .f64 (floatOfInt .f64 (d : Int))] 29 (0, 0))) := by rw [hW5]; exact alAt rfl
      have HB5 : Hid (Below w.heap.size w W5) := by rw [hW5]; exact belA (bel HBw.out hb4) _
      rw [← hW5]
      clear hW5 hb4 HBw hq0 hpw HQr HOf HWv hmul b0 b1 b2 b3 bf lBx
      obtain ⟨T, hT⟩ : ∃ T, T = w4.heap.size := ⟨_, rfl⟩
      rw [← hT] at HT5 ⊢
      clear hT
      have lT := hLt HT5.out
      obtain ⟨c0, c1, c2, c3, c4, c5, cf⟩ := cells6f HT5.out
      go_wp2_with (first
        | (go_at_call 12; refine (HA.out _).mono ?_; rintro e w9 ⟨rfl, hb9⟩))
      all_goals (
        go_ret
        exact ⟨rfl, bel HB5.out hb9⟩)
end Go.Proofs.Ytiecneefommdlaa
