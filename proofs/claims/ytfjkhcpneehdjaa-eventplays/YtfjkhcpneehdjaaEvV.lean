/- Events that are cancelled do not come. -/
import Derived.Test.YtfjkhcpneehdjaaEvU
namespace Go.Proofs.Ytfjkhcpneehdjaa
open Go.RowKit Qu Go.Maps
set_option linter.unusedVariables false
set_option linter.unusedSimpArgs false
set_option maxRecDepth 100000

def mkC (zs : List Int) (j : Nat) : Ev := ⟨zs.getD j 0 % 256, 0, ⟨#[]⟩, 1, (j : Int), false⟩
/-- whether the bit of a number is set -/
def bt (x : Int) (j : Nat) : Bool := decide (x / 2 ^ j % 2 = 1)
theorem bt_yes {x : Int} {j : Nat} (h : bt x j = true) : bits .and .i64 (x / 2 ^ j) 1 = 1 := by rw [and1]; unfold bt at h; exact of_decide_eq_true h
theorem bt_no {x : Int} {j : Nat} (h : bt x j = false) : bits .and .i64 (x / 2 ^ j) 1 = 0 := by rw [and1]; unfold bt at h; have := of_decide_eq_false h; omega
theorem cancel_w {B q : Nat} {lim : Int} {v : Value} {l : List Ev} {w w0 : World} {fr sq : Int} (h : Wd B q lim w0 w v l) (hB0 : B ≤ w0.heap.size) (hl : l.length ≤ 4096) (hk : hasK l fr sq = true) :
    Calls Try.prog 18 #[.pointer (some ⟨q, 0, none⟩), .int .i64 fr, .int .i64 sq] w fun e w' => e = .returned (.bool true) ∧ ∃ v' l' x, Hid (Wd B q lim w0 w' v' l') ∧ Hid (l.Perm (x :: l') ∧ isK fr sq x) := by
  have hs := h.b.size
  refine (cancel_yes B q lim v l fr sq w h.q hl hk).mono ?_
  rintro e w' ⟨rfl, v', l', x, a, b, c, d⟩
  exact ⟨rfl, v', l', x, ⟨a.out, h.b.trans (c.out.belowB h.q.b.ge h.q.own_ge (by omega))⟩, b⟩
theorem cancel_n {B q : Nat} {lim : Int} {v : Value} {l : List Ev} {w w0 : World} {fr sq : Int} (h : Wd B q lim w0 w v l) (hB0 : B ≤ w0.heap.size) (hl : l.length ≤ 4096) (hk : hasK l fr sq = false) :
    Calls Try.prog 18 #[.pointer (some ⟨q, 0, none⟩), .int .i64 fr, .int .i64 sq] w fun e w' => e = .returned (.bool false) ∧ Hid (Wd B q lim w0 w' v l) := by
  refine (cancel_no B q lim v l fr sq w h.q hl hk).mono ?_
  rintro e w' ⟨rfl, b⟩
  exact ⟨rfl, h.up hB0 b⟩
/-- which are left behind the first i of the cancelling -/
structure Lf (which : Int) (n i left : Nat) (js : List Nat) : Prop where
  m : ∀ j, j ∈ js ↔ j < n ∧ (j < i → bt which j = false)
  l : js.length + i = left + n
theorem Lf.start (which : Int) (n : Nat) : Lf which n 0 0 (List.range n) := ⟨fun j => by simp, by simp⟩
theorem Lf.keep {which : Int} {n i left : Nat} {js : List Nat} (h : Lf which n i left js) (hb : bt which i = false) : Lf which n (i + 1) (left + 1) js :=
  ⟨fun j => by
    rw [h.m j]
    constructor
    · rintro ⟨a, b⟩; refine ⟨a, fun c => ?_⟩; rcases (by omega : j < i ∨ j = i) with e | e; exact b e; subst e; exact hb
    · rintro ⟨a, b⟩; exact ⟨a, fun c => b (by omega)⟩, by have := h.l; omega⟩
theorem Lf.drop {which : Int} {n i left : Nat} {js : List Nat} (h : Lf which n i left js) (hn : js.Nodup) (hi : i < n) (hb : bt which i = true) : i ∈ js ∧ Lf which n (i + 1) left (js.erase i) := by
  have hm : i ∈ js := (h.m i).2 ⟨hi, fun c => by omega⟩
  refine ⟨hm, fun j => ?_, ?_⟩
  · rw [hn.mem_erase_iff, h.m j]
    constructor
    · rintro ⟨a, b, c⟩; refine ⟨b, fun d => c (by omega)⟩
    · rintro ⟨a, b⟩; refine ⟨fun e => ?_, a, fun c => b (by omega)⟩; subst e; rw [b (by omega)] at hb; cases hb
  · have h1 := List.length_erase_of_mem hm
    have h2 := List.length_pos_of_mem hm
    have := h.l
    omega
theorem rem_drop {zs : List Int} {n i : Nat} {l l' : List Ev} {js : List Nat} {x : Ev} (h : Rem (mkC zs) n l js) (hx : l.Perm (x :: l') ∧ isK 1 (i : Int) x) : Rem (mkC zs) n l' (js.erase i) := by
  obtain ⟨j, hj, e, hr⟩ := h.take hx.1
  have h2 := hx.2.2
  rw [e] at h2
  have e2 : (j : Int) = (i : Int) := h2
  have e3 : j = i := by omega
  subst e3
  exact hr
theorem rem_has {zs : List Int} {n i : Nat} {l : List Ev} {js : List Nat} (h : Rem (mkC zs) n l js) (hi : i ∈ js) : hasK l 1 (i : Int) = true :=
  hasK_iff.2 ⟨mkC zs i, h.p.mem_iff.2 (List.mem_map.2 ⟨i, hi, rfl⟩), rfl, rfl⟩
theorem rem_hasnt {zs : List Int} {n i : Nat} {l : List Ev} {js : List Nat} (h : Rem (mkC zs) n l js) (hi : i ∉ js) : hasK l 1 (i : Int) = false := h.hasK fun j hj => by
  show ¬ ((1 : Int) = 1 ∧ (j : Int) = (i : Int))
  rintro ⟨_, e⟩
  have : j = i := by omega
  subst this
  exact hi hj
theorem rem_two {zs : List Int} {n i : Nat} {l : List Ev} {js : List Nat} (h : Rem (mkC zs) n l js) : hasK l 2 (i : Int) = false := h.hasK fun j hj => by
  show ¬ ((1 : Int) = 2 ∧ (j : Int) = (i : Int))
  omega
set_option maxHeartbeats 8000000 in
theorem EventCancels_c (zs : List Int) (which : Int) (v0 : Value) (w : World) (h : IntsAt w v0 zs) : Calls Try.prog 6 #[v0, .int .i64 which] w fun e w' => e = .returned (.bool true) ∧ Below w.heap.size w w' := by
  obtain ⟨ao, cap, rfl⟩ := h.get
  have HI : Hid (IntsAt w (.slice ao zs.length cap) zs) := h
  clear h
  obtain ⟨n, hn⟩ : ∃ n, n = zs.length := ⟨_, rfl⟩
  have HN : Hid (n = zs.length) := hn
  rw [← hn]
  clear hn
  obtain ⟨q, hq⟩ : ∃ q, q = w.heap.size := ⟨_, rfl⟩
  obtain ⟨W0, hW0⟩ : ∃ W0, W0 = w.alloc (.cells #[.pointer (some ⟨w.heap.size, 0, none⟩), .int .i64 4096, .slice none 0 0] 51) := ⟨_, rfl⟩
  have HW0 : Hid (Wd w.heap.size q 4096 w W0 (.slice none 0 0) []) := by rw [hW0, hq]; exact ⟨Qh.start _ 4096 w (Nat.le_refl _), belA (Below.refl _ _) _⟩
  have HNw : Hid (Calls Try.prog 8 #[.int .i64 4096] w fun e w' => e = .returned (.tuple #[.pointer (some ⟨q, 0, none⟩), .int .i64 0]) ∧ w' = W0) := by rw [hW0, hq]; exact new_c 4096 w (by omega) (by omega)
  have HQ : Hid (q = w.heap.size) := hq
  clear hq hW0
  have HAw : Hid (∀ W, Calls Try.prog 10 #[] W fun e w' => e = .returned (.bool true) ∧ Below W.heap.size W w') := awake14
  by_cases hbig : 60 < n
  · have g1 : decide ((60 : Int) < (n : Int)) = true := by rw [decide_eq_true_eq]; omega
    go_enter Try.func6, Try.ntmps6
    go_wp2_with (first
      | (go_at_call 8; refine HNw.out.mono ?_; rintro e w1 ⟨rfl, hw⟩; rw [hw]; clear hw)
      | (go_at_call 10; refine (HAw.out _).mono ?_; rintro e wA ⟨rfl, hbA⟩))
    go_ret
    exact ⟨rfl, belN HW0.out.b (Nat.le_refl _) hbA⟩
  · have g1 : decide ((60 : Int) < (n : Int)) = false := by rw [decide_eq_false_iff_not]; omega
    obtain ⟨gz, oz, HZ⟩ : ∃ gz oz, Hid ((n = 0 ∨ ao = some ⟨gz, oz, none⟩) ∧ (0 < n → gz < w.heap.size ∧ ∀ i, i < n → w.cell? ⟨gz, oz + i, none⟩ = some (.int .i64 (zs.getD i 0)))) := by
      rcases Nat.eq_zero_or_pos n with h0 | hpos
      · exact ⟨0, 0, Or.inl h0, fun h => by omega⟩
      · obtain ⟨gz, oz, cap', e, hgz, hcz⟩ := HI.out.some_ (by have := HN.out; omega)
        injection e with e1 e2 e3
        exact ⟨gz, oz, Or.inr e1, fun _ => ⟨hgz, fun i hi => hcz i (by have := HN.out; omega)⟩⟩
    clear HI
    rcases HZ.out.1 with h0 | h0
    · have hn0 : n ≤ 0 := by omega
      clear h0
      go_enter Try.func6, Try.ntmps6
      go_wp2_with (first
        | (go_at_call 8; refine HNw.out.mono ?_; rintro e w1 ⟨rfl, hw⟩; rw [hw]; clear hw))
      clear HNw g1
      go_loopw [8] (fun s8 W => ∃ (i : Nat) (v : Value) (l : List Ev), i ≤ n ∧ s8 = .int .i64 i ∧ Hid (Wd w.heap.size q 4096 w W v l) ∧ Hid (Rem (mkC zs) i l (List.range i))) (fun s8 W => n - (intOf s8).toNat)
      case atStart => exact ⟨0, _, [], Nat.zero_le _, rfl, HW0.out, Rem.zero _⟩
      case round =>
        clear HW0
        obtain ⟨i, v, l, hi, rfl, HW, HR⟩ := hrel
        by_cases hlt : i < n
        · omega
        · obtain rfl : i = n := by omega
          go_wp2_with fail
          have HW' : Hid (Wd w.heap.size q 4096 w wr v l) := HW.out
          clear HW hlt hi
          go_loopw [9, 7] (fun s9 s7 W => ∃ (k left : Nat) (v : Value) (l : List Ev) (js : List Nat), k ≤ i ∧ left ≤ k ∧ s9 = .int .i64 k ∧ s7 = .int .i64 left ∧ Hid (Wd w.heap.size q 4096 w W v l) ∧ Hid (Rem (mkC zs) i l js ∧ Lf which i k left js)) (fun s9 s7 W => i - (intOf s9).toNat)
          case atStart => exact ⟨0, 0, v, l, _, Nat.zero_le _, Nat.le_refl _, rfl, rfl, HW'.out, HR.out, Lf.start _ _⟩
          case round =>
            clear HW' HR
            obtain ⟨k, left, v, l, js, hk, hlf, rfl, rfl, HW, HR⟩ := hrel
            by_cases hlt : k < i
            · omega
            · obtain rfl : k = i := by omega
              go_wp2_with fail
              have HW' : Hid (Wd w.heap.size q 4096 w wr v l) := HW.out
              have HR' : Hid (Rem (mkC zs) k l js ∧ js.length = left ∧ ∀ j ∈ js, bt which j = false) := ⟨HR.out.1, by have := HR.out.2.l; omega, fun j hj => by have h1 := (HR.out.2.m j).1 hj; exact h1.2 h1.1⟩
              clear HW hlt hk HR
              go_loopw [11, 10] (fun s11 s10 W => ∃ (t : Nat) (last : Int) (v : Value) (l : List Ev) (js : List Nat), t ≤ left ∧ s11 = .int .i64 t ∧ s10 = .int .i64 last ∧ Hid (Wd w.heap.size q 4096 w W v l) ∧ Hid (Rem (mkC zs) k l js ∧ js.length + t = left ∧ ∀ j ∈ js, bt which j = false) ∧ Hid (∀ z ∈ l, last ≤ z.t)) (fun s11 s10 W => left - (intOf s11).toNat)
              case atStart => exact ⟨0, -1, v, l, js, Nat.zero_le _, rfl, rfl, HW'.out, ⟨HR'.out.1, by have := HR'.out.2.1; omega, HR'.out.2.2⟩, fun z hz => by
                obtain ⟨j, _, rfl⟩ := List.mem_map.1 (HR'.out.1.p.mem_iff.1 hz)
                show (-1 : Int) ≤ zs.getD j 0 % 256
                omega⟩
              case round =>
                clear HW' HR'
                obtain ⟨t, last, v, l, js, ht, rfl, rfl, HW, HR, HT⟩ := hrel
                by_cases hlt : t < left
                · omega
                · obtain rfl : t = left := by omega
                  have HLn : Hid (Calls Try.prog 13 #[.pointer (some ⟨q, 0, none⟩)] wr fun e w' => e = .returned (.int .i64 (l.length : Int)) ∧ w' = wr) := len_c _ q 4096 v l wr HW.out.q.b
                  rw [show l.length = 0 by rw [HR.out.1.len]; have := HR.out.2.1; omega] at HLn
                  go_wp2_with (first
                    | (go_at_call 13; refine HLn.out.mono ?_; rintro e w1 ⟨rfl, hw⟩; rw [hw]; clear hw)
                    | (go_at_call 10; refine (HAw.out _).mono ?_; rintro e wA ⟨rfl, hbA⟩))
                  go_ret
                  exact ⟨rfl, belN HW.out.b (Nat.le_refl _) hbA⟩
    · subst h0
      go_enter Try.func6, Try.ntmps6
      go_wp2_with (first
        | (go_at_call 8; refine HNw.out.mono ?_; rintro e w1 ⟨rfl, hw⟩; rw [hw]; clear hw))
      clear HNw g1
      go_loopw [8] (fun s8 W => ∃ (i : Nat) (v : Value) (l : List Ev), i ≤ n ∧ s8 = .int .i64 i ∧ Hid (Wd w.heap.size q 4096 w W v l) ∧ Hid (Rem (mkC zs) i l (List.range i))) (fun s8 W => n - (intOf s8).toNat)
      case atStart => exact ⟨0, _, [], Nat.zero_le _, rfl, HW0.out, Rem.zero _⟩
      case round =>
        clear HW0
        obtain ⟨i, v, l, hi, rfl, HW, HR⟩ := hrel
        by_cases hlt : i < n
        · skip
          have hz : wr.cell? ⟨gz, oz + i, none⟩ = some (.int .i64 (zs.getD i 0)) := (HW.out.b.cell (p := ⟨gz, oz + i, none⟩) (HZ.out.2 (by omega)).1).trans ((HZ.out.2 (by omega)).2 i hlt)
          have i1 : (0 : Int) ≤ (i : Int) := by omega
          have i2 : (i : Int) < (n : Int) := by omega
          have a1 := and255 (zs.getD i 0)
          have HP : Hid (Calls Try.prog 15 #[.pointer (some ⟨q, 0, none⟩), .agg #[.int .i64 (zs.getD i 0 % 256), .int .i64 0, .string ⟨#[]⟩, .int .i64 1, .int .i64 (i : Int), .bool false]] wr fun e w' => e = .returned (.int .i64 0) ∧ ∃ v' l', Hid (Wd w.heap.size q 4096 w w' v' l') ∧ Hid (l'.Perm (mkC zs i :: l)) ∧ Hid (But2 q v.ownBlock wr w') ∧ Hid (Mv v v' wr)) := put_w (x := mkC zs i) HW.out (Nat.le_refl _) (by show 0 ≤ zs.getD i 0 % 256; omega) (by show zs.getD i 0 % 256 ≤ _; omega) rfl (HR.out.hasK fun j hj => by
            have := List.mem_range.1 hj
            show ¬ ((1 : Int) = 1 ∧ (j : Int) = (i : Int))
            omega) (by rw [HR.out.len, List.length_range]; omega) (by omega)
          generalize zs.getD i 0 = zi at hz a1 HP
          go_wp2_with (first
            | (go_at_call 15; refine HP.out.mono ?_; rintro e w2 ⟨rfl, v', l', r1, r2, r3, r4⟩))
          go_roundw
          case rel => exact ⟨i + 1, v', l', hlt, by go_num, r1.out, HR.out.put r2.out⟩
          case measure => simp [intOf]; omega
        · obtain rfl : i = n := by omega
          go_wp2_with fail
          have HW' : Hid (Wd w.heap.size q 4096 w wr v l) := HW.out
          clear HW hlt hi
          go_loopw [9, 7] (fun s9 s7 W => ∃ (k left : Nat) (v : Value) (l : List Ev) (js : List Nat), k ≤ i ∧ left ≤ k ∧ s9 = .int .i64 k ∧ s7 = .int .i64 left ∧ Hid (Wd w.heap.size q 4096 w W v l) ∧ Hid (Rem (mkC zs) i l js ∧ Lf which i k left js)) (fun s9 s7 W => i - (intOf s9).toNat)
          case atStart => exact ⟨0, 0, v, l, _, Nat.zero_le _, Nat.le_refl _, rfl, rfl, HW'.out, HR.out, Lf.start _ _⟩
          case round =>
            clear HW' HR
            obtain ⟨k, left, v, l, js, hk, hlf, rfl, rfl, HW, HR⟩ := hrel
            by_cases hlt : k < i
            · have k0 : (0 : Int) ≤ (k : Int) := by omega
              have k1 : (k : Int) ≤ 64 := by omega
              have hjl : Hid (l.length ≤ 60) := by
                have h1 := HR.out.1.len; have h2 := HR.out.2.l; show l.length ≤ 60; omega
              rcases Bool.eq_false_or_eq_true (bt which k) with hb | hb
              · have a1 := bt_yes hb
                obtain ⟨hm, hL⟩ := HR.out.2.drop HR.out.1.nd hlt hb
                have HM : Hid (k ∈ js ∧ Lf which i (k + 1) left (js.erase k)) := ⟨hm, hL⟩
                clear hb hm hL
                have HC1 : Hid (Calls Try.prog 18 #[.pointer (some ⟨q, 0, none⟩), .int .i64 1, .int .i64 (k : Int)] wr fun e w' => e = .returned (.bool true) ∧ ∃ v' l' x, Hid (Wd w.heap.size q 4096 w w' v' l') ∧ Hid (l.Perm (x :: l') ∧ isK 1 (k : Int) x)) := cancel_w HW.out (Nat.le_refl _) (by have := hjl.out; omega) (rem_has HR.out.1 HM.out.1)
                go_wp2_with (first
                  | (have hg := r5; go_at_call 18; refine (cancel_n (fr := 2) r5.out (Nat.le_refl _) HLn.out (rem_two HR2.out)).mono ?_; rintro e w6 ⟨rfl, r6⟩)
                  | (have hg := r4; go_at_call 18; refine (cancel_n (fr := 1) r4.out (Nat.le_refl _) HLn.out (rem_hasnt HR2.out HNm.out)).mono ?_; rintro e w5 ⟨rfl, r5⟩)
                  | (go_at_call 18; refine HC1.out.mono ?_; rintro e w4 ⟨rfl, v', l', x, r4, p4⟩; have HR2 : Hid (Rem (mkC zs) i l' (js.erase k)) := rem_drop HR.out.1 p4.out; have HLn : Hid (l'.length ≤ 4096) := (by have h1 := hjl.out; have h2 := p4.out.1.length_eq; simp at h2; show l'.length ≤ 4096; omega); have HNm : Hid (k ∉ js.erase k) := (by show k ∉ js.erase k; rw [HR.out.1.nd.mem_erase_iff]; simp)))
                go_roundw
                case rel => exact ⟨k + 1, left, v', l', js.erase k, hlt, by omega, by go_num, rfl, r6.out, HR2.out, HM.out.2⟩
                case measure => simp [intOf]; omega
              · have a1 := bt_no hb
                have HL : Hid (Lf which i (k + 1) (left + 1) js) := HR.out.2.keep hb
                clear hb
                go_wp2_with fail
                go_roundw
                case rel => exact ⟨k + 1, left + 1, v, l, js, hlt, by omega, by go_num, by go_num, HW.out, HR.out.1, HL.out⟩
                case measure => simp [intOf]; omega
            · obtain rfl : k = i := by omega
              go_wp2_with fail
              have HW' : Hid (Wd w.heap.size q 4096 w wr v l) := HW.out
              have HR' : Hid (Rem (mkC zs) k l js ∧ js.length = left ∧ ∀ j ∈ js, bt which j = false) := ⟨HR.out.1, by have := HR.out.2.l; omega, fun j hj => by have h1 := (HR.out.2.m j).1 hj; exact h1.2 h1.1⟩
              clear HW hlt hk HR
              go_loopw [11, 10] (fun s11 s10 W => ∃ (t : Nat) (last : Int) (v : Value) (l : List Ev) (js : List Nat), t ≤ left ∧ s11 = .int .i64 t ∧ s10 = .int .i64 last ∧ Hid (Wd w.heap.size q 4096 w W v l) ∧ Hid (Rem (mkC zs) k l js ∧ js.length + t = left ∧ ∀ j ∈ js, bt which j = false) ∧ Hid (∀ z ∈ l, last ≤ z.t)) (fun s11 s10 W => left - (intOf s11).toNat)
              case atStart => exact ⟨0, -1, v, l, js, Nat.zero_le _, rfl, rfl, HW'.out, ⟨HR'.out.1, by have := HR'.out.2.1; omega, HR'.out.2.2⟩, fun z hz => by
                obtain ⟨j, _, rfl⟩ := List.mem_map.1 (HR'.out.1.p.mem_iff.1 hz)
                show (-1 : Int) ≤ zs.getD j 0 % 256
                omega⟩
              case round =>
                clear HW' HR'
                obtain ⟨t, last, v, l, js, ht, rfl, rfl, HW, HR, HT⟩ := hrel
                by_cases hlt : t < left
                · obtain ⟨m, hm⟩ : ∃ m, l.length = m + 1 := ⟨l.length - 1, by rw [HR.out.1.len]; have := HR.out.2.1; omega⟩
                  have HTk : Hid (Calls Try.prog 16 #[.pointer (some ⟨q, 0, none⟩)] wr fun e w' => e = .returned (.tuple #[.agg #[.int .i64 (g l 0).t, .int .i64 (g l 0).nd, .string (g l 0).v, .int .i64 (g l 0).fr, .int .i64 (g l 0).sq, .bool (g l 0).an], .bool true]) ∧ ∃ v' l', Hid (Wd w.heap.size q 4096 w w' v' l') ∧ Hid (l.Perm (g l 0 :: l')) ∧ Hid (But2 q v.ownBlock wr w') ∧ Hid (Mv v v' wr)) := take_w HW.out (Nat.le_refl _) hm (by rw [HR.out.1.len] at hm; have := HR.out.2.1; omega)
                  have HX : Hid (∀ z ∈ l, (g l 0).t ≤ z.t) := fun z hz => by have := hp_all HW.out.q.h z hz; unfold le lt at this; omega
                  have hx := HT.out _ (g0_mem hm)
                  obtain ⟨j, hj, ex⟩ : ∃ j ∈ js, g l 0 = mkC zs j := by
                    obtain ⟨j, hj, e⟩ := List.mem_map.1 (HR.out.1.p.mem_iff.1 (g0_mem hm))
                    exact ⟨j, hj, e.symm⟩
                  have e4 : (g l 0).sq = (j : Int) := by rw [ex]; rfl
                  have hjk := HR.out.1.lt j hj
                  have a1 := bt_no (HR.out.2.2 j hj)
                  have HJ : Hid (j ∈ js ∧ g l 0 = mkC zs j) := ⟨hj, ex⟩
                  clear hm hj ex
                  rw [e4] at HTk
                  clear e4
                  generalize g l 0 = x at HTk HX hx HJ
                  have j0 : (0 : Int) ≤ (j : Int) := by omega
                  have j1 : (j : Int) ≤ 64 := by omega
                  have d1 : decide (x.t < last) = false := by rw [decide_eq_false_iff_not]; omega
                  go_wp2_with (first
                    | (go_at_call 16; refine HTk.out.mono ?_; rintro e w2 ⟨rfl, v', l', r1, r2, r3, r4⟩))
                  go_roundw
                  case rel =>
                    obtain ⟨j', hj', ex', hR'⟩ := HR.out.1.take r2.out
                    refine ⟨t + 1, x.t, v', l', js.erase j', hlt, by go_num, rfl, r1.out.up (Nat.le_refl _) (belA (Below.refl _ _) _), ⟨hR', ?_, fun i hi => HR.out.2.2 i (List.mem_of_mem_erase hi)⟩, fun z hz => HX.out z (r2.out.mem_iff.2 (by simp [hz]))⟩
                    have h1 := HR.out.2.1
                    have h2 := List.length_erase_of_mem hj'
                    have h3 := List.length_pos_of_mem hj'
                    omega
                  case measure => simp [intOf]; omega
                · obtain rfl : t = left := by omega
                  have HLn : Hid (Calls Try.prog 13 #[.pointer (some ⟨q, 0, none⟩)] wr fun e w' => e = .returned (.int .i64 (l.length : Int)) ∧ w' = wr) := len_c _ q 4096 v l wr HW.out.q.b
                  rw [show l.length = 0 by rw [HR.out.1.len]; have := HR.out.2.1; omega] at HLn
                  go_wp2_with (first
                    | (go_at_call 13; refine HLn.out.mono ?_; rintro e w1 ⟨rfl, hw⟩; rw [hw]; clear hw)
                    | (go_at_call 10; refine (HAw.out _).mono ?_; rintro e wA ⟨rfl, hbA⟩))
                  go_ret
                  exact ⟨rfl, belN HW.out.b (Nat.le_refl _) hbA⟩
end Go.Proofs.Ytfjkhcpneehdjaa
