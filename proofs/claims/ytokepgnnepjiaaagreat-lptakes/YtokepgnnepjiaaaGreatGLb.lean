/- Texts KLe KLf KLg KLk, joined: what each part says stands ahead of it. -/
import Derived.Test.YtokepgnnepjiaaaGreatKLd
import Derived.Test.YtokepgnnepjiaaaGreatGKe
/- The program's walk, Run and Loop of layer 11. -/
namespace Go.Proofs.YtokepgnnepjiaaaGreat
set_option maxRecDepth 100000
open Go.RowKit Lg Nl Go.Maps
set_option linter.unusedVariables false
set_option linter.unusedSimpArgs false

set_option maxRecDepth 100000 in
set_option maxHeartbeats 4000000 in
theorem walk_c (w0 : World) (b T1 T2 T3 : Nat) (l : List Nd) (n : Nat) (na : Option Addr) (nc : Nat) (w : World)
    (hk : Ok l) (hN : NdsAt w0 (.slice na n nc) l) (hnl : n = l.length) (ap : Ap w0.heap.size b T1 T2 T3) (h : Wk w0 b T1 T2 T3 n (.slice na n nc) (fun _ => 0) (fun _ => 0) (fun _ => 0) w) :
    Calls Tryz.prog 84 #[.pointer (some ⟨b, 0, none⟩)] w fun e w' =>
      (∃ st nx lv, e = .returned (.slice none 0 0) ∧ Wk w0 b T1 T2 T3 n (.slice na n nc) st nx lv w' ∧ Lev l lv) ∨
      (∃ ao p cap, e = .returned (.slice ao (p : List Nat).length cap) ∧ IntsAt w' (.slice ao p.length cap) (nZ p) ∧ Ring l p ∧ Below w0.heap.size w0 w') := by
  have hn4 : n ≤ 4096 := by rw [hnl]; exact hk.n
  have HK : Hid (Ok l) := hk
  have HN : Hid (NdsAt w0 (.slice na n nc) l) := hN
  have HNL : Hid (n = l.length) := hnl
  have HAp : Hid (Ap w0.heap.size b T1 T2 T3) := ap
  have HW : Hid (Wk w0 b T1 T2 T3 n (.slice na n nc) (fun _ => 0) (fun _ => 0) (fun _ => 0) w) := h
  obtain ⟨p0, p1, p2, p3⟩ := cells4n h.blk
  have hbl := hLt h.blk
  clear h hk hN ap hnl
  go_enter Tryz.func84, Tryz.ntmps84
  go_wp2
  go_loopw [10] (fun s10 W => ∃ (i : Nat) (st : Nat → Int) (nx : Nat → Nat) (lv : Nat → Int), i ≤ n ∧ s10 = .int .i64 i ∧ Hid (Wk w0 b T1 T2 T3 n (.slice na n nc) st nx lv W) ∧ Hid (Dw l st nx lv []) ∧ Hid (∀ q, q < n → lv q + mu st n ≤ 2 * n) ∧ Hid (∀ q, q < i → st q ≠ 0)) (fun s10 W => n - (intOf s10).toNat)
  case atStart => exact ⟨0, _, _, _, Nat.zero_le _, rfl, HW.out, Dw.start l, fun q hq => by have := mu_le (fun _ => 0) n (fun i _ => Int.le_refl _); show (0 : Int) + _ ≤ _; omega, fun q hq => absurd hq (Nat.not_lt_zero _)⟩
  case round =>
    clear p0 p1 p2 p3 hbl HW
    obtain ⟨i, st, nx, lv, hi, rfl, HW, HD, HLV, HS⟩ := hrel
    obtain ⟨p0, p1, p2, p3⟩ := cells4n HW.out.blk
    have hbl := hLt HW.out.blk
    by_cases hlt : i < n
    · have ys := HW.out.r1.cell hlt
      have i1 : (0 : Int) ≤ (i : Int) := by omega
      have i2 : (i : Int) < (n : Int) := by omega
      have hil : i < l.length := by rw [← HNL.out]; exact hlt
      by_cases h0 : st i = 0
      · have HC : Hid (Calls Tryz.prog 102 #[.pointer (some ⟨b, 0, none⟩), .int .i64 (i : Int)] wr fun e w' =>
            (∃ st' nx' lv', e = .returned (.slice none 0 0) ∧ Hid (Wk w0 b T1 T2 T3 n (.slice na n nc) st' nx' lv' w') ∧ Hid (Dw l st' nx' lv' []) ∧ Hid (∀ q, q < n → lv' q + mu st' n ≤ 2 * n) ∧ Hid (∀ q, q < n → st q ≤ st' q) ∧ Hid (1 ≤ st' i)) ∨
            (∃ ao p cap, e = .returned (.slice ao (p : List Nat).length cap) ∧ Hid (IntsAt w' (.slice ao p.length cap) (nZ p)) ∧ Hid (Ring l p) ∧ 0 < p.length ∧ Hid (Below w0.heap.size w0 w'))) := by
          refine (down_c w0 b T1 T2 T3 l n na nc st nx lv i wr HK.out HN.out HNL.out HAp.out HW.out HD.out hlt h0 HLV.out).mono ?_
          rintro e w' (⟨st', nx', lv', rfl, a1, a2, a3, a4, a5⟩ | ⟨v, p, rfl, a1, a2, a3⟩)
          · exact Or.inl ⟨st', nx', lv', rfl, a1, a2, a3, a4, a5⟩
          · obtain ⟨ao, cap, rfl, _⟩ := id a1
            rw [nZ_len] at a1
            exact Or.inr ⟨ao, p, cap, by rw [nZ_len], a1, a2, a2.pos, a3⟩
        rw [h0] at ys
        clear h0
        go_wp2_with (first
          | (go_at_call 102; refine HC.out.mono ?_; rintro e w5 (⟨st', nx', lv', rfl, HW5, HD5, HL5, HM5, H15⟩ | ⟨ao, p, cap, rfl, HI5, HR5, hp5, HB5⟩)))
        · go_roundw
          case rel =>
            refine ⟨i + 1, st', nx', lv', hlt, by go_num, HW5.out, HD5.out, HL5.out, fun q hq => ?_⟩
            rcases Nat.lt_succ_iff_lt_or_eq.1 hq with h | h
            · have h1 := HS.out q h
              have h2 := HM5.out q (by omega)
              have h3 := HD.out.s q (by rw [← HNL.out]; omega)
              omega
            · rw [h]; have := H15.out; omega
          case measure => simp [intOf]; omega
        · go_ret
          exact Or.inr ⟨ao, p, cap, rfl, HI5.out, HR5.out, HB5.out⟩
      · have h0' : (st i != 0) = true := by simpa using h0
        have H0 : Hid (st i ≠ 0) := h0
        clear h0
        go_wp2
        go_roundw
        case rel => exact ⟨i + 1, st, nx, lv, hlt, by go_num, HW.out, HD.out, HLV.out, fun q hq => by rcases Nat.lt_succ_iff_lt_or_eq.1 hq with h | h; exact HS.out q h; rw [h]; exact H0.out⟩
        case measure => simp [intOf]; omega
    · obtain rfl : i = n := by omega
      go_wp2
      go_ret
      exact Or.inl ⟨st, nx, lv, rfl, HW.out, HD.out.lev (fun q hq => HS.out q (by rw [HNL.out]; exact hq))⟩
/-- what Run tells of a netlist -/
def RunR (l : List Nd) (may : Bool) (B : Nat) (e : Ending) (w' : World) : Prop :=
  (may = false ∧ e = .returned (.tuple #[.slice none 0 0, .int .i64 1])) ∨
  (may = true ∧ Hid (∃ p, Ring l p) ∧ e = .returned (.tuple #[.slice none 0 0, .int .i64 110])) ∨
  (may = true ∧ ∃ lv T, Hid (Lev l lv) ∧ B ≤ T ∧ e = .returned (.tuple #[.slice (some ⟨T, 0, none⟩) l.length l.length, .int .i64 0]) ∧ Hid (w'.rowIs T 3 l.length (fun q => .int .i64 (lv q))))
set_option maxRecDepth 100000 in
set_option maxHeartbeats 4000000 in
theorem lRun_c (l : List Nd) (nets : List Int) (vN vT : Value) (pt : Int) (w : World) (hN : NdsAt w vN l) (hT : IntsAt w vT nets) (hf : Fits l nets) :
    Calls Tryz.prog 58 #[.agg #[vN, vT, .int .i64 pt]] w fun e w' => RunR l (mayN l nets pt) w.heap.size e w' ∧ Below w.heap.size w w' := by
  have HC : Hid (∀ W, Below w.heap.size w W → Calls Tryz.prog 32 #[.agg #[vN, vT, .int .i64 pt]] W fun e w' => e = .returned (.int .i64 (errB (mayN l nets pt))) ∧ Below W.heap.size W w') := fun W hW => kCheck_c l nets vN vT pt W (hN.below hW) (hT.below hW) hf
  obtain ⟨na, nc, rfl, hnc, _⟩ := id hN
  obtain ⟨ta, tc, rfl, htc, _⟩ := id hT
  obtain ⟨n, hn⟩ : ∃ n, n = l.length := ⟨_, rfl⟩
  obtain ⟨m, hm⟩ : ∃ m, m = nets.length := ⟨_, rfl⟩
  have HN : Hid (NdsAt w (.slice na n nc) l) := by rw [hn]; exact hN
  rw [← hn, ← hm] at HC
  have HNL : Hid (n = l.length) := hn
  unfold RunR
  rw [← hn, ← hm]
  rcases hmay : mayN l nets pt with _ | _
  · rw [hmay] at HC
    clear hN hT hf hn hm hnc htc hmay
    go_enter Tryz.func58, Tryz.ntmps58
    have he : errB false = 1 := rfl
    rw [he] at HC
    go_wp2_with (first | (go_at_call 32; refine (HC.out _ (belA (Below.refl _ _) _)).mono ?_; rintro e w5 ⟨rfl, hb5⟩))
    go_ret2
    exact ⟨Or.inl ⟨by simp, rfl⟩, bel (belA (Below.refl _ _) _) hb5⟩
  · have hok := may_ok hmay
    have hn4 : n ≤ 4096 := by rw [hn]; exact hok.n
    rw [hmay] at HC
    have HOK : Hid (Ok l) := hok
    have HW : Hid (∀ W, Below w.heap.size w W → Calls Tryz.prog 83 #[.slice na n nc] W fun e w' => ∃ b T1 T2 T3, e = .returned (.pointer (some ⟨b, 0, none⟩)) ∧ Hid (Ap W.heap.size b T1 T2 T3) ∧ Hid (Wk W b T1 T2 T3 n (.slice na n nc) (fun _ => 0) (fun _ => 0) (fun _ => 0) w')) := fun W hW => newW_c n na nc W hn4
    have HK : Hid (∀ W b T1 T2 T3 w1, Below w.heap.size w W → Ap W.heap.size b T1 T2 T3 → Wk W b T1 T2 T3 n (.slice na n nc) (fun _ => 0) (fun _ => 0) (fun _ => 0) w1 → Calls Tryz.prog 84 #[.pointer (some ⟨b, 0, none⟩)] w1 fun e w' =>
      (∃ st nx lv, e = .returned (.slice none 0 0) ∧ Hid (Wk W b T1 T2 T3 n (.slice na n nc) st nx lv w') ∧ w'.cell? ⟨b, 3, none⟩ = some (.slice (some ⟨T3, 0, none⟩) n n) ∧ b < w'.heap.size ∧ Hid (Lev l lv)) ∨
      (∃ ao p cap, e = .returned (.slice ao (p : List Nat).length cap) ∧ 0 < p.length ∧ p.length ≤ 4096 ∧ Hid (IntsAt w' (.slice ao p.length cap) (nZ p)) ∧ Hid (Ring l p) ∧ Hid (Below W.heap.size W w'))) := fun W b T1 T2 T3 w1 hW ha hk => by
        refine (walk_c W b T1 T2 T3 l n na nc w1 hok (HN.out.below hW) hn ha hk).mono ?_
        rintro e w' (⟨st, nx, lv, rfl, a1, a2⟩ | ⟨ao, p, cap, rfl, a1, a2, a3⟩)
        · exact Or.inl ⟨st, nx, lv, rfl, a1, (cells4n a1.blk).2.2.2, hLt a1.blk, a2⟩
        · exact Or.inr ⟨ao, p, cap, rfl, a2.pos, Nat.le_trans a2.len hok.n, a1, a2, a3⟩
    clear hN hT hf hn hm hnc htc hmay hok
    go_enter Tryz.func58, Tryz.ntmps58
    have he : errB true = 0 := rfl
    rw [he] at HC
    go_wp2_with (first
      | (go_at_call 32; refine (HC.out _ (belA (Below.refl _ _) _)).mono ?_; rintro e w5 ⟨rfl, hb5⟩; have B5 := bel (belA (Below.refl w.heap.size w) (.cells #[.slice na n nc, .slice ta m tc, .int .i64 pt] 26)) hb5; have x5 := hb5.block w.heap.size (by simp); rw [alAt rfl] at x5; obtain ⟨c0, c1, c2⟩ := cells3n x5; have lx := hLt x5)
      | (go_at_call 83; refine (HW.out _ B5).mono ?_; rintro e w6 ⟨b, T1, T2, T3, rfl, HA6, HW6⟩)
      | (go_at_call 84; refine (HK.out _ _ _ _ _ _ B5 HA6.out HW6.out).mono ?_; rintro e w7 (⟨st, nx, lv, rfl, HW7, hc7, hl7, HL7⟩ | ⟨ao, p, cap, rfl, hp7, hp8, HI7, HR7, HB7⟩)))
    · go_ret2
      refine ⟨Or.inr (Or.inr ⟨by simp, lv, T3, HL7.out, ?_, rfl, HW7.out.r3⟩), bel B5 HW7.out.bel⟩
      have h1 := HA6.out.t3
      have h2 := B5.size
      omega
    · go_ret2
      exact ⟨Or.inr (Or.inl ⟨by simp, ⟨p, HR7.out⟩, rfl⟩), bel B5 HB7.out⟩
/-- what Loop tells of a netlist -/
def LoopR (l : List Nd) (may : Bool) (e : Ending) (w' : World) : Prop :=
  (may = false ∧ e = .returned (.slice none 0 0)) ∨
  (may = true ∧ Hid (∃ lv, Lev l lv) ∧ e = .returned (.slice none 0 0)) ∨
  (may = true ∧ ∃ ao p cap, e = .returned (.slice ao (p : List Nat).length cap) ∧ Hid (IntsAt w' (.slice ao p.length cap) (nZ p)) ∧ Hid (Ring l p))
end Go.Proofs.YtokepgnnepjiaaaGreat

/- Layer 11's awake: two small netlists; the statements' gate that turns. -/
namespace Go.Proofs.YtokepgnnepjiaaaGreat
set_option maxRecDepth 100000
open Go.RowKit Lg Nl Go.Maps
set_option linter.unusedVariables false
set_option linter.unusedSimpArgs false

theorem lev_ring {l : List Nd} (hk : Ok l) {g : Nat → Int} (hg : Lev l g) {p : List Nat} (hp : Ring l p) : False := by
  obtain ⟨f, hf, _⟩ := levels_some hk hg
  rw [hp.none hk] at hf
  cases hf
def gAt (g : List Int) (i : Nat) : Int := g.getD i 0
def levB (l : List Nd) (g : List Int) : Bool :=
  (List.range l.length).all fun i => decide (0 ≤ gAt g i) && (hgs (ndAt l i)).all (fun h => decide (gAt g h + 1 ≤ gAt g i)) && (decide (gAt g i = 0) || (hgs (ndAt l i)).any (fun h => decide (gAt g i = gAt g h + 1)))
theorem levB_lev {l : List Nd} {g : List Int} (h : levB l g = true) : Lev l (gAt g) := by
  unfold levB at h
  rw [List.all_eq_true] at h
  have key : ∀ i, i < l.length → 0 ≤ gAt g i ∧ (∀ q ∈ hgs (ndAt l i), gAt g q + 1 ≤ gAt g i) ∧ (gAt g i = 0 ∨ ∃ q ∈ hgs (ndAt l i), gAt g i = gAt g q + 1) := fun i hi => by
    have := h i (List.mem_range.2 hi)
    simp only [Bool.and_eq_true, Bool.or_eq_true, decide_eq_true_eq, List.all_eq_true, List.any_eq_true] at this
    exact ⟨this.1.1, this.1.2, this.2⟩
  exact ⟨fun i hi => (key i hi).1, fun i hi => (key i hi).2.1, fun i hi => (key i hi).2.2⟩
/-- a row of nodes that a call owns -/
theorem own_nds {w : World} {B : Nat} {N : Nat → Prop} {v : Value} {l : List Nd} {xs : List Value} (ho : w.ownsRow B 61 8 v l.length xs) (hn : NcAt w N l xs) : NdsAt w v l := by
  rcases ho.2 with ⟨rfl, h0⟩ | ⟨g, cap, cur, rfl, hg, hh, hc, _, hz, ht⟩
  · exact ⟨none, 0, by rw [h0], by omega, Or.inl (List.eq_nil_of_length_eq_zero h0)⟩
  · refine ⟨_, cap, rfl, hc, Or.inr ⟨g, 0, rfl, hLt hh, fun i hi => ?_⟩⟩
    obtain ⟨vi, a, b⟩ := hn.at_ i hi
    refine ⟨vi, a.ints, fun j u hu => ?_⟩
    have hx := b j u hu
    rw [Lib.cell_of_heap hh, Nat.zero_add]
    rw [← ht, List.getElem?_take] at hx
    split at hx
    · simpa using hx
    · cases hx
def nNot (k : Int) : Nd := ⟨3, 7, 1, [k], [], 0, 0, 0⟩
def nIn1 : Nd := ⟨2, 0, 1, [], [], 0, 0, 0⟩
def awA : List Nd := [nNot 1, nIn1, nNot 0]
def awB : List Nd := [nNot 1, nNot 0]
theorem awA_may : mayN awA [1, 2] 2 = true := by decide +kernel
theorem awB_may : mayN awB [] 0 = true := by decide +kernel
theorem awA_lev : Lev awA (gAt [1, 0, 2]) := levB_lev (by decide +kernel)
theorem awB_ring : Ring awB [0, 1] := by
  refine ⟨by decide, by decide, by decide, fun j a b ha hb => ?_⟩
  match j, ha with
  | 0, ha => simp at ha hb; subst ha hb; decide +kernel
  | 1, ha => simp at ha hb; subst ha hb; decide +kernel
  | n + 2, ha => simp at ha
theorem awB_two {p : List Nat} (h : Ring awB p) : p.length = 2 := by
  have h1 := h.len
  have h2 := h.pos
  have h3 : awB.length = 2 := rfl
  rw [h3] at h1
  rcases (by omega : p.length = 1 ∨ p.length = 2) with e | e
  · exfalso
    obtain ⟨a, rfl⟩ : ∃ a, p = [a] := List.length_eq_one_iff.1 e
    have ha := h.lt a (by simp)
    have hg := h.hg 0 a a (by simp) (by simp)
    rw [h3] at ha
    rcases (by omega : a = 0 ∨ a = 1) with rfl | rfl
    · exact absurd hg (by decide +kernel)
    · exact absurd hg (by decide +kernel)
  · exact e
theorem ints_nil (w : World) : IntsAt w (.slice none 0 0) [] := ⟨none, 0, rfl, Nat.le_refl _, Or.inl rfl⟩
theorem fitsA : Fits awA [1, 2] := ⟨by decide, by decide, by decide, by decide⟩
theorem fitsB : Fits awB [] := ⟨by decide, by decide, by decide, by decide⟩
theorem awA_run (vN vT : Value) (W : World) (hN : NdsAt W vN awA) (hT : IntsAt W vT [1, 2]) :
    Calls Tryz.prog 58 #[.agg #[vN, vT, .int .i64 2]] W fun e w' => ∃ T, e = .returned (.tuple #[.slice (some ⟨T, 0, none⟩) 3 3, .int .i64 0]) ∧ W.heap.size ≤ T ∧ T < w'.heap.size ∧ w'.cell? ⟨T, 0, none⟩ = some (.int .i64 1) ∧ w'.cell? ⟨T, 1, none⟩ = some (.int .i64 0) ∧ w'.cell? ⟨T, 2, none⟩ = some (.int .i64 2) ∧ Below W.heap.size W w' := by
  refine (lRun_c awA [1, 2] vN vT 2 W hN hT fitsA).mono ?_
  rintro e w' ⟨h, hb⟩
  rw [awA_may] at h
  have hok := may_ok awA_may
  rcases h with ⟨h, _⟩ | ⟨_, ⟨p, hp⟩, _⟩ | ⟨_, lv, T, hl, hT, rfl, hr⟩
  · cases h
  · exact (lev_ring hok awA_lev hp).elim
  · have e := lev_one hok hl.out awA_lev
    have c := fun i (hi : i < awA.length) => hr.out.cell hi
    have c0 := c 0 (by decide)
    have c1 := c 1 (by decide)
    have c2 := c 2 (by decide)
    rw [e 0 (by decide)] at c0
    rw [e 1 (by decide)] at c1
    rw [e 2 (by decide)] at c2
    exact ⟨T, rfl, hT, hr.out.lt, c0, c1, c2, hb⟩
theorem awB_run (vN : Value) (W : World) (hN : NdsAt W vN awB) :
    Calls Tryz.prog 58 #[.agg #[vN, .slice none 0 0, .int .i64 0]] W fun e w' => e = .returned (.tuple #[.slice none 0 0, .int .i64 110]) ∧ Below W.heap.size W w' := by
  refine (lRun_c awB [] vN _ 0 W hN (ints_nil _) fitsB).mono ?_
  rintro e w' ⟨h, hb⟩
  rw [awB_may] at h
  rcases h with ⟨h, _⟩ | ⟨_, _, rfl⟩ | ⟨_, lv, T, hl, _, _, _⟩
  · cases h
  · exact ⟨rfl, hb⟩
  · exact (lev_ring (may_ok awB_may) hl.out awB_ring).elim
def anyB : Nat → Prop := fun _ => True
theorem ints_one {w : World} {g : Nat} {z : Int} (hg : g < w.heap.size) (hc : w.cell? ⟨g, 0, none⟩ = some (.int .i64 z)) : IntsN w anyB (.slice (some ⟨g, 0, none⟩) 1 1) [z] := by
  refine ⟨_, 1, rfl, Nat.le_refl _, Or.inr ⟨g, 0, rfl, trivial, hg, fun i hi => ?_⟩⟩
  have : i = 0 := by simp at hi; exact hi
  subst this
  exact hc
theorem ints_none (w : World) : IntsN w anyB (.slice none 0 0) [] := ⟨none, 0, rfl, Nat.le_refl _, Or.inl rfl⟩
theorem awA_at {wA wB : World} {gA gB : Nat} (h1 : gA < wA.heap.size) (c1 : wA.cell? ⟨gA, 0, none⟩ = some (.int .i64 1)) (hb : Below wA.heap.size wA wB) (h2 : gB < wB.heap.size) (c2 : wB.cell? ⟨gB, 0, none⟩ = some (.int .i64 0)) :
    NdsAt (wB.alloc (.cells (ndC (nNot 1) (.slice (some ⟨gA, 0, none⟩) 1 1) ++ (ndC nIn1 (.slice none 0 0) ++ (ndC (nNot 0) (.slice (some ⟨gB, 0, none⟩) 1 1) ++ []))).toArray 61)) (.slice (some ⟨wB.heap.size, 0, none⟩) 3 3) awA := by
  have h1' : gA < wB.heap.size := Nat.lt_of_lt_of_le h1 hb.size
  have ho := World.ownsRow_lit (base := 0) (e := 61) (size := 8) wB (ndC (nNot 1) (.slice (some ⟨gA, 0, none⟩) 1 1) ++ (ndC nIn1 (.slice none 0 0) ++ (ndC (nNot 0) (.slice (some ⟨gB, 0, none⟩) 1 1) ++ []))).toArray 3 (Nat.zero_le _) (by decide) rfl
  have k : KeepN anyB wB (wB.alloc (.cells (ndC (nNot 1) (.slice (some ⟨gA, 0, none⟩) 1 1) ++ (ndC nIn1 (.slice none 0 0) ++ (ndC (nNot 0) (.slice (some ⟨gB, 0, none⟩) 1 1) ++ []))).toArray 61)) := ⟨by simp, fun k hk _ => alOld hk⟩
  exact own_nds (N := anyB) ho ((NcAt.cons (x := nNot 1) (ints_one h1' ((hb.cell (p := ⟨gA, 0, none⟩) h1).trans c1)) (NcAt.cons (x := nIn1) (ints_none _) (NcAt.cons (x := nNot 0) (ints_one h2 c2) NcAt.nil))).keep k)
theorem awB_at {wA wB : World} {gA gB : Nat} (h1 : gA < wA.heap.size) (c1 : wA.cell? ⟨gA, 0, none⟩ = some (.int .i64 1)) (hb : Below wA.heap.size wA wB) (h2 : gB < wB.heap.size) (c2 : wB.cell? ⟨gB, 0, none⟩ = some (.int .i64 0)) :
    NdsAt (wB.alloc (.cells (ndC (nNot 1) (.slice (some ⟨gA, 0, none⟩) 1 1) ++ (ndC (nNot 0) (.slice (some ⟨gB, 0, none⟩) 1 1) ++ [])).toArray 61)) (.slice (some ⟨wB.heap.size, 0, none⟩) 2 2) awB := by
  have h1' : gA < wB.heap.size := Nat.lt_of_lt_of_le h1 hb.size
  have ho := World.ownsRow_lit (base := 0) (e := 61) (size := 8) wB (ndC (nNot 1) (.slice (some ⟨gA, 0, none⟩) 1 1) ++ (ndC (nNot 0) (.slice (some ⟨gB, 0, none⟩) 1 1) ++ [])).toArray 2 (Nat.zero_le _) (by decide) rfl
  have k : KeepN anyB wB (wB.alloc (.cells (ndC (nNot 1) (.slice (some ⟨gA, 0, none⟩) 1 1) ++ (ndC (nNot 0) (.slice (some ⟨gB, 0, none⟩) 1 1) ++ [])).toArray 61)) := ⟨by simp, fun k hk _ => alOld hk⟩
  exact own_nds (N := anyB) ho ((NcAt.cons (x := nNot 1) (ints_one h1' ((hb.cell (p := ⟨gA, 0, none⟩) h1).trans c1)) (NcAt.cons (x := nNot 0) (ints_one h2 c2) NcAt.nil)).keep k)
theorem gen_calls {P : Program} {f : Nat} {args : Array Value} {W : World} {Q : Ending → World → Prop} (p : World → Prop) (h : p W) (k : ∀ W', p W' → Calls P f args W' Q) : Calls P f args W Q := k W h
theorem ints_two' (w : World) (a b : Int) {n : Nat} (hn : w.heap.size = n) : IntsAt (w.alloc (.cells #[.int .i64 a, .int .i64 b] 3)) (.slice (some ⟨n, 0, none⟩) 2 2) [a, b] := by
  subst hn
  refine ⟨_, 2, rfl, Nat.le_refl _, Or.inr ⟨w.heap.size, 0, rfl, by simp, fun i hi => ?_⟩⟩
  have h0 : i = 0 ∨ i = 1 := by simp at hi; omega
  rcases h0 with rfl | rfl <;> (rw [Lib.cell_of_heap (alAt rfl)]; rfl)
end Go.Proofs.YtokepgnnepjiaaaGreat
