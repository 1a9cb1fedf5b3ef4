/- The program's walk, Run and Loop of layer 11. -/
import Derived.Test.YtpdcmehjndhcjaaKLd
namespace Go.Proofs.Ytpdcmehjndhcjaa
open Go.RowKit Lg Nl Go.Maps
set_option linter.unusedVariables false
set_option linter.unusedSimpArgs false

set_option maxRecDepth 100000 in
set_option maxHeartbeats 4000000 in
theorem walk_c (w0 : World) (b T1 T2 T3 : Nat) (l : List Nd) (n : Nat) (na : Option Addr) (nc : Nat) (w : World)
    (hk : Ok l) (hN : NdsAt w0 (.slice na n nc) l) (hnl : n = l.length) (ap : Ap w0.heap.size b T1 T2 T3) (h : Wk w0 b T1 T2 T3 n (.slice na n nc) (fun _ => 0) (fun _ => 0) (fun _ => 0) w) :
    Calls Try.prog 18 #[.pointer (some ⟨b, 0, none⟩)] w fun e w' =>
      (∃ st nx lv, e = .returned (.slice none 0 0) ∧ Wk w0 b T1 T2 T3 n (.slice na n nc) st nx lv w' ∧ Lev l lv) ∨
      (∃ ao p cap, e = .returned (.slice ao (p : List Nat).length cap) ∧ IntsAt w' (.slice ao p.length cap) (nZ p) ∧ Ring l p ∧ Below w0.heap.size w0 w') := by
  have hn4 : n ≤ 4096 := by rw [hnl]; exact hk.n
  have HK : Hid (Ok l) := hk
  have HN : Hid (NdsAt w0 (.slice na n nc) l) := hN
  have HNL : Hid (n = l.length) := hnl
  have HAp : Hid (Ap w0.heap.size b T1 T2 T3) := ap
  have HW : Hid (Wk w0 b T1 T2 T3 n (.slice na n nc) (fun _ => 0) (fun _ => 0) (fun _ => 0) w) := h
  obtain ⟨p0, p1, p2, p3⟩ := cells4n h.blk
  have hbl := hLt h.blk
  clear h hk hN ap hnl
  go_enter Try.func18, Try.ntmps18
  go_wp2
  go_loopw [10] (fun s10 W => ∃ (i : Nat) (st : Nat → Int) (nx : Nat → Nat) (lv : Nat → Int), i ≤ n ∧ s10 = .int .i64 i ∧ Hid (Wk w0 b T1 T2 T3 n (.slice na n nc) st nx lv W) ∧ Hid (Dw l st nx lv []) ∧ Hid (∀ q, q < n → lv q + mu st n ≤ 2 * n) ∧ Hid (∀ q, q < i → st q ≠ 0)) (fun s10 W => n - (intOf s10).toNat)
  case atStart => exact ⟨0, _, _, _, Nat.zero_le _, rfl, HW.out, Dw.start l, fun q hq => by have := mu_le (fun _ => 0) n (fun i _ => Int.le_refl _); show (0 : Int) + _ ≤ _; omega, fun q hq => absurd hq (Nat.not_lt_zero _)⟩
  case round =>
    clear p0 p1 p2 p3 hbl HW
    obtain ⟨i, st, nx, lv, hi, rfl, HW, HD, HLV, HS⟩ := hrel
    obtain ⟨p0, p1, p2, p3⟩ := cells4n HW.out.blk
    have hbl := hLt HW.out.blk
    by_cases hlt : i < n
    · have ys := HW.out.r1.cell hlt
      have i1 : (0 : Int) ≤ (i : Int) := by omega
      have i2 : (i : Int) < (n : Int) := by omega
      have hil : i < l.length := by rw [← HNL.out]; exact hlt
      by_cases h0 : st i = 0
      · have HC : Hid (Calls Try.prog 29 #[.pointer (some ⟨b, 0, none⟩), .int .i64 (i : Int)] wr fun e w' =>
            (∃ st' nx' lv', e = .returned (.slice none 0 0) ∧ Hid (Wk w0 b T1 T2 T3 n (.slice na n nc) st' nx' lv' w') ∧ Hid (Dw l st' nx' lv' []) ∧ Hid (∀ q, q < n → lv' q + mu st' n ≤ 2 * n) ∧ Hid (∀ q, q < n → st q ≤ st' q) ∧ Hid (1 ≤ st' i)) ∨
            (∃ ao p cap, e = .returned (.slice ao (p : List Nat).length cap) ∧ Hid (IntsAt w' (.slice ao p.length cap) (nZ p)) ∧ Hid (Ring l p) ∧ 0 < p.length ∧ Hid (Below w0.heap.size w0 w'))) := by
          refine (down_c w0 b T1 T2 T3 l n na nc st nx lv i wr HK.out HN.out HNL.out HAp.out HW.out HD.out hlt h0 HLV.out).mono ?_
          rintro e w' (⟨st', nx', lv', rfl, a1, a2, a3, a4, a5⟩ | ⟨v, p, rfl, a1, a2, a3⟩)
          · exact Or.inl ⟨st', nx', lv', rfl, a1, a2, a3, a4, a5⟩
          · obtain ⟨ao, cap, rfl, _⟩ := id a1
            rw [nZ_len] at a1
            exact Or.inr ⟨ao, p, cap, by rw [nZ_len], a1, a2, a2.pos, a3⟩
        rw [h0] at ys
        clear h0
        go_wp2_with (first
          | (go_at_call 29; refine HC.out.mono ?_; rintro e w5 (⟨st', nx', lv', rfl, HW5, HD5, HL5, HM5, H15⟩ | ⟨ao, p, cap, rfl, HI5, HR5, hp5, HB5⟩)))
        · go_roundw
          case rel =>
            refine ⟨i + 1, st', nx', lv', hlt, by go_num, HW5.out, HD5.out, HL5.out, fun q hq => ?_⟩
            rcases Nat.lt_succ_iff_lt_or_eq.1 hq with h | h
            · have h1 := HS.out q h
              have h2 := HM5.out q (by omega)
              have h3 := HD.out.s q (by rw [← HNL.out]; omega)
              omega
            · rw [h]; have := H15.out; omega
          case measure => simp [intOf]; omega
        · go_ret
          exact Or.inr ⟨ao, p, cap, rfl, HI5.out, HR5.out, HB5.out⟩
      · have h0' : (st i != 0) = true := by simpa using h0
        have H0 : Hid (st i ≠ 0) := h0
        clear h0
        go_wp2
        go_roundw
        case rel => exact ⟨i + 1, st, nx, lv, hlt, by go_num, HW.out, HD.out, HLV.out, fun q hq => by rcases Nat.lt_succ_iff_lt_or_eq.1 hq with h | h; exact HS.out q h; rw [h]; exact H0.out⟩
        case measure => simp [intOf]; omega
    · obtain rfl : i = n := by omega
      go_wp2
      go_ret
      exact Or.inl ⟨st, nx, lv, rfl, HW.out, HD.out.lev (fun q hq => HS.out q (by rw [HNL.out]; exact hq))⟩
/-- what Run tells of a netlist -/
def RunR (l : List Nd) (may : Bool) (B : Nat) (e : Ending) (w' : World) : Prop :=
  (may = false ∧ e = .returned (.tuple #[.slice none 0 0, .int .i64 1])) ∨
  (may = true ∧ Hid (∃ p, Ring l p) ∧ e = .returned (.tuple #[.slice none 0 0, .int .i64 110])) ∨
  (may = true ∧ ∃ lv T, Hid (Lev l lv) ∧ B ≤ T ∧ e = .returned (.tuple #[.slice (some ⟨T, 0, none⟩) l.length l.length, .int .i64 0]) ∧ Hid (w'.rowIs T 3 l.length (fun q => .int .i64 (lv q))))
set_option maxRecDepth 100000 in
set_option maxHeartbeats 4000000 in
theorem lRun_c (l : List Nd) (nets : List Int) (vN vT : Value) (pt : Int) (w : World) (hN : NdsAt w vN l) (hT : IntsAt w vT nets) (hf : Fits l nets) :
    Calls Try.prog 8 #[.agg #[vN, vT, .int .i64 pt]] w fun e w' => RunR l (mayN l nets pt) w.heap.size e w' ∧ Below w.heap.size w w' := by
  have HC : Hid (∀ W, Below w.heap.size w W → Calls Try.prog 16 #[.agg #[vN, vT, .int .i64 pt]] W fun e w' => e = .returned (.int .i64 (errB (mayN l nets pt))) ∧ Below W.heap.size W w') := fun W hW => kCheck_c l nets vN vT pt W (hN.below hW) (hT.below hW) hf
  obtain ⟨na, nc, rfl, hnc, _⟩ := id hN
  obtain ⟨ta, tc, rfl, htc, _⟩ := id hT
  obtain ⟨n, hn⟩ : ∃ n, n = l.length := ⟨_, rfl⟩
  obtain ⟨m, hm⟩ : ∃ m, m = nets.length := ⟨_, rfl⟩
  have HN : Hid (NdsAt w (.slice na n nc) l) := by rw [hn]; exact hN
  rw [← hn, ← hm] at HC
  have HNL : Hid (n = l.length) := hn
  unfold RunR
  rw [← hn, ← hm]
  rcases hmay : mayN l nets pt with _ | _
  · rw [hmay] at HC
    clear hN hT hf hn hm hnc htc hmay
    go_enter Try.func8, Try.ntmps8
    have he : errB false = 1 := rfl
    rw [he] at HC
    go_wp2_with (first | (go_at_call 16; refine (HC.out _ (belA (Below.refl _ _) _)).mono ?_; rintro e w5 ⟨rfl, hb5⟩))
    go_ret2
    exact ⟨Or.inl ⟨by simp, rfl⟩, bel (belA (Below.refl _ _) _) hb5⟩
  · have hok := may_ok hmay
    have hn4 : n ≤ 4096 := by rw [hn]; exact hok.n
    rw [hmay] at HC
    have HOK : Hid (Ok l) := hok
    have HW : Hid (∀ W, Below w.heap.size w W → Calls Try.prog 17 #[.slice na n nc] W fun e w' => ∃ b T1 T2 T3, e = .returned (.pointer (some ⟨b, 0, none⟩)) ∧ Hid (Ap W.heap.size b T1 T2 T3) ∧ Hid (Wk W b T1 T2 T3 n (.slice na n nc) (fun _ => 0) (fun _ => 0) (fun _ => 0) w')) := fun W hW => newW_c n na nc W hn4
    have HK : Hid (∀ W b T1 T2 T3 w1, Below w.heap.size w W → Ap W.heap.size b T1 T2 T3 → Wk W b T1 T2 T3 n (.slice na n nc) (fun _ => 0) (fun _ => 0) (fun _ => 0) w1 → Calls Try.prog 18 #[.pointer (some ⟨b, 0, none⟩)] w1 fun e w' =>
      (∃ st nx lv, e = .returned (.slice none 0 0) ∧ Hid (Wk W b T1 T2 T3 n (.slice na n nc) st nx lv w') ∧ w'.cell? ⟨b, 3, none⟩ = some (.slice (some ⟨T3, 0, none⟩) n n) ∧ b < w'.heap.size ∧ Hid (Lev l lv)) ∨
      (∃ ao p cap, e = .returned (.slice ao (p : List Nat).length cap) ∧ 0 < p.length ∧ p.length ≤ 4096 ∧ Hid (IntsAt w' (.slice ao p.length cap) (nZ p)) ∧ Hid (Ring l p) ∧ Hid (Below W.heap.size W w'))) := fun W b T1 T2 T3 w1 hW ha hk => by
        refine (walk_c W b T1 T2 T3 l n na nc w1 hok (HN.out.below hW) hn ha hk).mono ?_
        rintro e w' (⟨st, nx, lv, rfl, a1, a2⟩ | ⟨ao, p, cap, rfl, a1, a2, a3⟩)
        · exact Or.inl ⟨st, nx, lv, rfl, a1, (cells4n a1.blk).2.2.2, hLt a1.blk, a2⟩
        · exact Or.inr ⟨ao, p, cap, rfl, a2.pos, Nat.le_trans a2.len hok.n, a1, a2, a3⟩
    clear hN hT hf hn hm hnc htc hmay hok
    go_enter Try.func8, Try.ntmps8
    have he : errB true = 0 := rfl
    rw [he] at HC
    go_wp2_with (first
      | (go_at_call 16; refine (HC.out _ (belA (Below.refl _ _) _)).mono ?_; rintro e w5 ⟨rfl, hb5⟩; have B5 := bel (belA (Below.refl w.heap.size w) (.cells #[.slice na n nc, .slice ta m tc, .int .i64 pt] 25)) hb5; have x5 := hb5.block w.heap.size (by simp); rw [alAt rfl] at x5; obtain ⟨c0, c1, c2⟩ := cells3n x5; have lx := hLt x5)
      | (go_at_call 17; refine (HW.out _ B5).mono ?_; rintro e w6 ⟨b, T1, T2, T3, rfl, HA6, HW6⟩)
      | (go_at_call 18; refine (HK.out _ _ _ _ _ _ B5 HA6.out HW6.out).mono ?_; rintro e w7 (⟨st, nx, lv, rfl, HW7, hc7, hl7, HL7⟩ | ⟨ao, p, cap, rfl, hp7, hp8, HI7, HR7, HB7⟩)))
    · go_ret2
      refine ⟨Or.inr (Or.inr ⟨by simp, lv, T3, HL7.out, ?_, rfl, HW7.out.r3⟩), bel B5 HW7.out.bel⟩
      have h1 := HA6.out.t3
      have h2 := B5.size
      omega
    · go_ret2
      exact ⟨Or.inr (Or.inl ⟨by simp, ⟨p, HR7.out⟩, rfl⟩), bel B5 HB7.out⟩
/-- what Loop tells of a netlist -/
def LoopR (l : List Nd) (may : Bool) (e : Ending) (w' : World) : Prop :=
  (may = false ∧ e = .returned (.slice none 0 0)) ∨
  (may = true ∧ Hid (∃ lv, Lev l lv) ∧ e = .returned (.slice none 0 0)) ∨
  (may = true ∧ ∃ ao p cap, e = .returned (.slice ao (p : List Nat).length cap) ∧ Hid (IntsAt w' (.slice ao p.length cap) (nZ p)) ∧ Hid (Ring l p))
set_option maxRecDepth 100000 in
set_option maxHeartbeats 4000000 in
theorem lLoop_c (l : List Nd) (nets : List Int) (vN vT : Value) (pt : Int) (w : World) (hN : NdsAt w vN l) (hT : IntsAt w vT nets) (hf : Fits l nets) :
    Calls Try.prog 10 #[.agg #[vN, vT, .int .i64 pt]] w fun e w' => LoopR l (mayN l nets pt) e w' ∧ Below w.heap.size w w' := by
  have HC : Hid (∀ W, Below w.heap.size w W → Calls Try.prog 16 #[.agg #[vN, vT, .int .i64 pt]] W fun e w' => e = .returned (.int .i64 (errB (mayN l nets pt))) ∧ Below W.heap.size W w') := fun W hW => kCheck_c l nets vN vT pt W (hN.below hW) (hT.below hW) hf
  obtain ⟨na, nc, rfl, hnc, _⟩ := id hN
  obtain ⟨ta, tc, rfl, htc, _⟩ := id hT
  obtain ⟨n, hn⟩ : ∃ n, n = l.length := ⟨_, rfl⟩
  obtain ⟨m, hm⟩ : ∃ m, m = nets.length := ⟨_, rfl⟩
  have HN : Hid (NdsAt w (.slice na n nc) l) := by rw [hn]; exact hN
  rw [← hn, ← hm] at HC
  have HNL : Hid (n = l.length) := hn
  unfold LoopR
  rw [← hn, ← hm]
  rcases hmay : mayN l nets pt with _ | _
  · rw [hmay] at HC
    clear hN hT hf hn hm hnc htc hmay
    go_enter Try.func10, Try.ntmps10
    have he : errB false = 1 := rfl
    rw [he] at HC
    go_wp2_with (first | (go_at_call 16; refine (HC.out _ (belA (Below.refl _ _) _)).mono ?_; rintro e w5 ⟨rfl, hb5⟩))
    go_ret
    exact ⟨Or.inl ⟨by simp, rfl⟩, bel (belA (Below.refl _ _) _) hb5⟩
  · have hok := may_ok hmay
    have hn4 : n ≤ 4096 := by rw [hn]; exact hok.n
    rw [hmay] at HC
    have HOK : Hid (Ok l) := hok
    have HW : Hid (∀ W, Below w.heap.size w W → Calls Try.prog 17 #[.slice na n nc] W fun e w' => ∃ b T1 T2 T3, e = .returned (.pointer (some ⟨b, 0, none⟩)) ∧ Hid (Ap W.heap.size b T1 T2 T3) ∧ Hid (Wk W b T1 T2 T3 n (.slice na n nc) (fun _ => 0) (fun _ => 0) (fun _ => 0) w')) := fun W hW => newW_c n na nc W hn4
    have HK : Hid (∀ W b T1 T2 T3 w1, Below w.heap.size w W → Ap W.heap.size b T1 T2 T3 → Wk W b T1 T2 T3 n (.slice na n nc) (fun _ => 0) (fun _ => 0) (fun _ => 0) w1 → Calls Try.prog 18 #[.pointer (some ⟨b, 0, none⟩)] w1 fun e w' =>
      (∃ st nx lv, e = .returned (.slice none 0 0) ∧ Hid (Wk W b T1 T2 T3 n (.slice na n nc) st nx lv w') ∧ w'.cell? ⟨b, 3, none⟩ = some (.slice (some ⟨T3, 0, none⟩) n n) ∧ b < w'.heap.size ∧ Hid (Lev l lv)) ∨
      (∃ ao p cap, e = .returned (.slice ao (p : List Nat).length cap) ∧ 0 < p.length ∧ p.length ≤ 4096 ∧ Hid (IntsAt w' (.slice ao p.length cap) (nZ p)) ∧ Hid (Ring l p) ∧ Hid (Below W.heap.size W w'))) := fun W b T1 T2 T3 w1 hW ha hk => by
        refine (walk_c W b T1 T2 T3 l n na nc w1 hok (HN.out.below hW) hn ha hk).mono ?_
        rintro e w' (⟨st, nx, lv, rfl, a1, a2⟩ | ⟨ao, p, cap, rfl, a1, a2, a3⟩)
        · exact Or.inl ⟨st, nx, lv, rfl, a1, (cells4n a1.blk).2.2.2, hLt a1.blk, a2⟩
        · exact Or.inr ⟨ao, p, cap, rfl, a2.pos, Nat.le_trans a2.len hok.n, a1, a2, a3⟩
    clear hN hT hf hn hm hnc htc hmay hok
    go_enter Try.func10, Try.ntmps10
    have he : errB true = 0 := rfl
    rw [he] at HC
    go_wp2_with (first
      | (go_at_call 16; refine (HC.out _ (belA (Below.refl _ _) _)).mono ?_; rintro e w5 ⟨rfl, hb5⟩; have B5 := bel (belA (Below.refl w.heap.size w) (.cells #[.slice na n nc, .slice ta m tc, .int .i64 pt] 25)) hb5; have x5 := hb5.block w.heap.size (by simp); rw [alAt rfl] at x5; obtain ⟨c0, c1, c2⟩ := cells3n x5; have lx := hLt x5)
      | (go_at_call 17; refine (HW.out _ B5).mono ?_; rintro e w6 ⟨b, T1, T2, T3, rfl, HA6, HW6⟩)
      | (go_at_call 18; refine (HK.out _ _ _ _ _ _ B5 HA6.out HW6.out).mono ?_; rintro e w7 (⟨st, nx, lv, rfl, HW7, hc7, hl7, HL7⟩ | ⟨ao, p, cap, rfl, hp7, hp8, HI7, HR7, HB7⟩)))
    · go_ret
      exact ⟨Or.inr (Or.inl ⟨by simp, ⟨lv, HL7.out⟩, rfl⟩), bel B5 HW7.out.bel⟩
    · go_ret
      exact ⟨Or.inr (Or.inr ⟨by simp, ao, p, cap, rfl, HI7.out, HR7.out⟩), bel B5 HB7.out⟩
end Go.Proofs.Ytpdcmehjndhcjaa
