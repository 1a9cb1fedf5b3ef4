/- Layer 20: the landed code: when a net changes, the times between, in memory. -/
import Derived.Test.YtiecneefommdlaaFT
import Derived.Test.YtiecneefommdlaaVC
namespace Go.Proofs.Ytiecneefommdlaa
set_option maxRecDepth 100000
open Go.RowKit Lg Nl Go.Maps Wf Fl
set_option linter.unusedVariables false
set_option linter.unusedSimpArgs false

/-- does a change count -/
def tkB (net hz : Int) (c : Ch) : Bool := decide (c.t ≤ hz) && (decide (net = -1) || decide (net = c.n))
def tmL (net hz : Int) (l : List Ch) : List Int := (l.filter (tkB net hz)).map (·.t)
theorem tm_take (net hz : Int) (l : List Ch) (k : Nat) (hk : k < l.length) : tmL net hz (l.take (k + 1)) = if tkB net hz (cA l k) = true then tmL net hz (l.take k) ++ [(cA l k).t] else tmL net hz (l.take k) := by
  unfold tmL
  rw [List.take_add_one, List.getElem?_eq_getElem hk, List.filter_append, cA_at hk]
  split <;> rename_i h <;> simp [h]
theorem tm_len (net hz : Int) (l : List Ch) (k : Nat) : (tmL net hz (l.take k)).length ≤ l.length := by
  unfold tmL
  rw [List.length_map]
  exact Nat.le_trans (List.length_filter_le _ _) (List.length_take_le' _ _)
theorem app_b2i {n m : Nat} (h : n = m) (hm : m ≤ 4398046511000) : (n + 1) * 8 ≤ 140737488355328 := by omega
theorem one1i (x : Int) : ∀ u ∈ [Value.int .i64 x], u.oneCell' = true := by intro u hu; simp at hu; subst hu; rfl
set_option maxHeartbeats 4000000 in
set_option maxRecDepth 1000000 in
theorem times20 (l : List Ch) (vl : Value) (net hz : Int) (w : World) (hx : ChAt w vl l) (hl : l.length ≤ 4398046511000) : Calls Try.prog 24 #[vl, .int .i64 net, .int .i64 hz] w fun e w' => ∃ a n c, e = .returned (.slice a n c) ∧ Hid (n = (tmL net hz l).length) ∧ Hid (w'.ownsRow w.heap.size 3 1 (.slice a n c) n (iC (tmL net hz l))) ∧ Hid (Below w.heap.size w w') := by
  have HL : Hid (l.length ≤ 4398046511000) := hl
  have HA : Hid (ChAt w vl l) := hx
  obtain ⟨al, cl, rfl, _, _⟩ := hx
  clear hl
  go_enter Try.func24, Try.ntmps24
  go_wp2_with fail
  go_loopg [7, 12] l.length (fun g s7 s12 wr => ∃ (i : Nat) (a : Option Addr) (n c : Nat), i ≤ l.length ∧ g = l.length - i ∧ s7 = .slice a n c ∧ s12 = .int .i64 i ∧ Hid (n = (tmL net hz (l.take i)).length) ∧ Hid (wr.ownsRow w.heap.size 3 1 (.slice a n c) n (iC (tmL net hz (l.take i)))) ∧ Hid (Below w.heap.size w wr))
  case atStart => exact ⟨0, none, 0, 0, Nat.zero_le _, rfl, rfl, rfl, rfl, World.ownsRow_nil _ _ _ _, Below.refl _ _⟩
  case round =>
    obtain ⟨i, a, n, c, hi, rfl, rfl, rfl, HN2, HR2, HBx⟩ := hrel
    obtain ⟨wx, hwx⟩ : ∃ wx, wx = wr := ⟨_, rfl⟩
    rw [← hwx] at HR2 HBx ⊢
    clear hwx
    by_cases hin : i < l.length
    · obtain ⟨gl, ol, rfl, hgl, c0, c1, c2⟩ := (HA.out.below HBx.out).at_ i hin
      have HTk : Hid (tmL net hz (l.take (i + 1)) = if tkB net hz (cA l i) = true then tmL net hz (l.take i) ++ [(cA l i).t] else tmL net hz (l.take i)) := tm_take net hz l i hin
      have HLn : Hid ((tmL net hz (l.take i)).length ≤ 4398046511000) := Nat.le_trans (tm_len net hz l i) HL.out
      have i0 : (0 : Int) ≤ (i : Int) := by omega
      have i1 : (i : Int) < (l.length : Int) := by omega
      generalize cA l i = y at *
      obtain ⟨yt, yn, yv⟩ := y
      simp only at c0 c1 c2
      have HTk2 : Hid (tkB net hz ⟨yt, yn, yv⟩ = (decide (yt ≤ hz) && (decide (net = -1) || decide (net = yn)))) := rfl
      obtain ⟨W1, hW1⟩ : ∃ W1, W1 = wx.alloc (.cells #[.int .i64 yt, .int .i64 yn, .string yv] 48) := ⟨_, rfl⟩
      have HB1 : Hid (Below wx.heap.size wx W1) := by rw [hW1]; exact belA (Below.refl _ _) _
      have HF1 : Hid (W1.heap[wx.heap.size]? = some (.cells #[.int .i64 yt, .int .i64 yn, .string yv] 48 (0, 0))) := by rw [hW1]; exact alAt rfl
      have HR1 : Hid (W1.ownsRow w.heap.size 3 1 (.slice a n c) n (iC (tmL net hz (l.take i)))) := own_below HR2.out HB1.out
      go_upto_region 5 with fail
      rw [← hW1]
      clear hW1 c0 c1 c2
      obtain ⟨c0, c1, c2⟩ := cells3n HF1.out
      have lF := hLt HF1.out
      obtain ⟨F, hF⟩ : ∃ F, F = wx.heap.size := ⟨_, rfl⟩
      rw [← hF] at c0 c1 c2 lF HF1 ⊢
      have HBW : Hid (Below w.heap.size w W1) := bel HBx.out HB1.out
      clear hF
      obtain ⟨jj, hjj⟩ := infoInt
      have HJ : Hid (Try.prog.info? 3 = some jj ∧ jj.zero = some (.int .i64 0) ∧ jj.size = 1 ∧ jj.bytes = 8) := hjj
      clear hjj
      have ways : (decide (yt ≤ hz) = false ∧ tkB net hz ⟨yt, yn, yv⟩ = false) ∨ (decide (yt ≤ hz) = true ∧ (net == -1) = true ∧ tkB net hz ⟨yt, yn, yv⟩ = true) ∨ (decide (yt ≤ hz) = true ∧ (net == -1) = false ∧ (net == yn) = true ∧ tkB net hz ⟨yt, yn, yv⟩ = true) ∨ (decide (yt ≤ hz) = true ∧ (net == -1) = false ∧ (net == yn) = false ∧ tkB net hz ⟨yt, yn, yv⟩ = false) := by
        rw [HTk2.out]
        by_cases k1 : yt ≤ hz <;> by_cases k2 : net = -1 <;> by_cases k3 : net = yn <;> first | (simp [k1, k2, k3]; done) | (simp [k1, k2, k3]; omega)
      rcases ways with ⟨k1, HT⟩ | ⟨k1, k2, HT⟩ | ⟨k1, k2, k3, HT⟩ | ⟨k1, k2, k3, HT⟩
      · have HT' : Hid (tkB net hz ⟨yt, yn, yv⟩ = false) := HT
        clear HT
        go_wp2_with fail
        go_roundg (l.length - (i + 1))
        case measure => omega
        case rel =>
          have hT := HTk.out
          rw [if_neg (by rw [HT'.out]; decide)] at hT
          exact ⟨i + 1, a, n, c, hin, rfl, rfl, wrap_succ hin (Nat.le_trans HL.out (by decide)), by rw [hT]; exact HN2.out, by rw [hT]; exact HR1.out, HBW.out⟩
      · have HT' : Hid (tkB net hz ⟨yt, yn, yv⟩ = true) := HT
        clear HT
        go_wp2_with (first
          | (at_builtin; refine wpList_append_own_at _ rfl _ _ 23 rfl w.heap.size 3 jj _ 1 8 Try.underlying23 HJ.out.1 HJ.out.2.1 HJ.out.2.2.1 HJ.out.2.2.2 rfl (by decide) _ n (iC (tmL net hz (l.take i))) rfl (own_below HR1.out (belA (Below.refl _ _) _)) ⟨W1.heap.size, 0, none⟩ 1 1 [.int .i64 yt] rfl rfl (fun j u hj => new1i _ _ _ _ rfl j u hj) (one1i yt) (app_b1 HN2.out HLn.out) (app_b2i HN2.out HLn.out) (Nat.le_trans HBW.out.size (by simp)) ?_; intro v9 w9 hown9 hgrow9 hnil9 hloc9; obtain ⟨g9, c9, rfl⟩ := own_slice1 hown9; have HO9 : Hid (w9.ownsRow w.heap.size 3 1 (.slice (some ⟨g9, 0, none⟩) (n + 1) c9) (n + 1) (iC (tmL net hz (l.take i)) ++ [.int .i64 yt])) := hown9; have HG9 : Hid ((W1.alloc (.cells #[.int .i64 yt] 3)).grownBy w9 (Value.slice a n c).ownBlock) := hgrow9; clear hown9 hgrow9 hnil9 hloc9))
        go_roundg (l.length - (i + 1))
        case measure => omega
        case rel =>
          have hT := HTk.out
          rw [if_pos HT'.out] at hT
          have hg := HG9.out
          refine ⟨i + 1, some ⟨g9, 0, none⟩, n + 1, c9, hin, rfl, rfl, wrap_succ hin (Nat.le_trans HL.out (by decide)), ?_, ?_, ?_⟩
          · show n + 1 = _; rw [hT, List.length_append, ← HN2.out]; rfl
          · have := HO9.out; show World.ownsRow _ _ _ _ _ _ _; rw [hT, iC_app]; exact this
          · exact Gb (belA HBW.out _) hg (fun g e => (World.ownsRow.lt HR1.out g e).1)
      · have HT' : Hid (tkB net hz ⟨yt, yn, yv⟩ = true) := HT
        clear HT
        go_wp2_with (first
          | (at_builtin; refine wpList_append_own_at _ rfl _ _ 23 rfl w.heap.size 3 jj _ 1 8 Try.underlying23 HJ.out.1 HJ.out.2.1 HJ.out.2.2.1 HJ.out.2.2.2 rfl (by decide) _ n (iC (tmL net hz (l.take i))) rfl (own_below HR1.out (belA (Below.refl _ _) _)) ⟨W1.heap.size, 0, none⟩ 1 1 [.int .i64 yt] rfl rfl (fun j u hj => new1i _ _ _ _ rfl j u hj) (one1i yt) (app_b1 HN2.out HLn.out) (app_b2i HN2.out HLn.out) (Nat.le_trans HBW.out.size (by simp)) ?_; intro v9 w9 hown9 hgrow9 hnil9 hloc9; obtain ⟨g9, c9, rfl⟩ := own_slice1 hown9; have HO9 : Hid (w9.ownsRow w.heap.size 3 1 (.slice (some ⟨g9, 0, none⟩) (n + 1) c9) (n + 1) (iC (tmL net hz (l.take i)) ++ [.int .i64 yt])) := hown9; have HG9 : Hid ((W1.alloc (.cells #[.int .i64 yt] 3)).grownBy w9 (Value.slice a n c).ownBlock) := hgrow9; clear hown9 hgrow9 hnil9 hloc9))
        go_roundg (l.length - (i + 1))
        case measure => omega
        case rel =>
          have hT := HTk.out
          rw [if_pos HT'.out] at hT
          have hg := HG9.out
          refine ⟨i + 1, some ⟨g9, 0, none⟩, n + 1, c9, hin, rfl, rfl, wrap_succ hin (Nat.le_trans HL.out (by decide)), ?_, ?_, ?_⟩
          · show n + 1 = _; rw [hT, List.length_append, ← HN2.out]; rfl
          · have := HO9.out; show World.ownsRow _ _ _ _ _ _ _; rw [hT, iC_app]; exact this
          · exact Gb (belA HBW.out _) hg (fun g e => (World.ownsRow.lt HR1.out g e).1)
      · have HT' : Hid (tkB net hz ⟨yt, yn, yv⟩ = false) := HT
        clear HT
        go_wp2_with fail
        go_roundg (l.length - (i + 1))
        case measure => omega
        case rel =>
          have hT := HTk.out
          rw [if_neg (by rw [HT'.out]; decide)] at hT
          exact ⟨i + 1, a, n, c, hin, rfl, rfl, wrap_succ hin (Nat.le_trans HL.out (by decide)), by rw [hT]; exact HN2.out, by rw [hT]; exact HR1.out, HBW.out⟩
    · have hie : i = l.length := by omega
      have i5 : ¬ (i : Int) < (l.length : Int) := by omega
      have htk : l.take i = l := List.take_of_length_le (by omega)
      have hN := HN2.out
      rw [htk] at HR2 hN
      have HNn : Hid (n = (tmL net hz l).length) := hN
      clear hin hie htk HN2 hN
      go_wp2_with fail
      go_ret
      exact ⟨a, n, c, rfl, HNn, HR2, HBx⟩
end Go.Proofs.Ytiecneefommdlaa
