/- The document's queue: Put, where it puts. -/
import Derived.Test.YtfjkhcpneehdjaaEwD
namespace Go.Proofs.Ytfjkhcpneehdjaa
open Go.RowKit Qu Go.Maps
set_option linter.unusedVariables false
set_option linter.unusedSimpArgs false
set_option maxRecDepth 100000

theorem Pi.short {x : Ev} {s acc : List Ev} {i : Nat} (h : Pi x s i acc false) : acc.length ≤ i := by
  rcases h with ⟨_, h1, _⟩ | ⟨e, _⟩
  · rw [h1, List.length_take]; omega
  · cases e
theorem new6f (w : World) (e : Ev) (t : TypeId) (n : Nat) (hn : w.heap.size = n) (he : e.an = false) (j : Nat) (u : Value) (h : (evC e)[j]? = some u) : (w.alloc (.cells #[.int .i64 e.t, .int .i64 e.nd, .string e.v, .int .i64 e.fr, .int .i64 e.sq, .bool false] t)).cell? ((⟨n, 0, none⟩ : Addr).add j) = some u := by
  have k := new6 w e t n hn j u h
  rw [he] at k
  exact k
set_option maxHeartbeats 4000000 in
theorem rPut_ok1 (B : Nat) (lim : Int) (gb n cap : Nat) (s : List Ev) (x : Ev) (w : World) (h : EvR B w gb cap s) (hnn : n = s.length) (hn : s.length ≤ 4096) (hx : 0 ≤ x.t) (ha : x.an = false) (hk : hasK s x.fr x.sq = false) (ht : x.t ≤ 4611686018427387903) (hf : (n : Int) < lim) :
    Calls Try.prog 22 #[.agg #[.int .i64 lim, .slice (some ⟨gb, 0, none⟩) n cap], .agg #[.int .i64 x.t, .int .i64 x.nd, .string x.v, .int .i64 x.fr, .int .i64 x.sq, .bool x.an]] w fun e w' => ∃ v' f, e = .returned (.tuple #[.agg #[.int .i64 lim, v'], .int .i64 0]) ∧ Hid (EvS w.heap.size w' v' f) ∧ Hid (Ins x s f) ∧ Below w.heap.size w w' := by
  have HF : Hid (∀ W, Below w.heap.size w W → Calls Try.prog 29 #[.agg #[.int .i64 lim, .slice (some ⟨gb, 0, none⟩) n cap], .int .i64 x.fr, .int .i64 x.sq] W fun e w' => ∃ k, e = .returned (.int .i64 k) ∧ Hid (Fd s x.fr x.sq k) ∧ Below W.heap.size W w') := fun W hW => rFind_c B lim _ s x.fr x.sq W (by have k : EvS B w (.slice (some ⟨gb, 0, none⟩) n cap) s := (by rw [hnn]; exact h); exact k.below hW) (by omega)
  have d1 : decide (x.t < 0) = false := decide_eq_false (by omega)
  have HH : Hid (hasK s x.fr x.sq = false) := hk
  have HR : Hid (EvR B w gb cap s) := h
  have HN : Hid (n = s.length) := hnn
  have HAn : Hid (x.an = false) := ha
  rw [← hnn] at hn
  clear h hk hnn
  have d2 : decide (4611686018427387903 < x.t) = false := decide_eq_false (by omega)
  have d3 : decide (lim ≤ (n : Int)) = false := decide_eq_false (by omega)
  rw [ha]
  obtain ⟨i0, h1, h2, h3, h4⟩ := infoEv
  go_enter Try.func22, Try.ntmps22
  go_wp2_with (first
    | (go_at_call 29; refine (HF.out _ (belA (belA (belA (Below.refl _ _) _) _) _)).mono ?_; rintro e w2 ⟨k, rfl, HK, hb2⟩; have q1 : decide (0 ≤ k) = false := (by rw [HK.out.no HH.out]; rfl); have HB2 : Hid (Below w.heap.size w w2) := belT (belA (belA (belA (Below.refl _ _) _) _) _) hb2; have HX2 : Hid (w2.heap[w.heap.size]? = some (.cells #[.int .i64 lim, .slice (some ⟨gb, 0, none⟩) n cap] 29 (0, 0))) := (hb2.block _ (by simp <;> omega)).trans ((alOld (by simp <;> omega)).trans ((alOld (by simp <;> omega)).trans (alAt rfl))); have HY2 : Hid (w2.heap[w.heap.size + 1]? = some (.cells #[.int .i64 x.t, .int .i64 x.nd, .string x.v, .int .i64 x.fr, .int .i64 x.sq, .bool false] 34 (0, 0))) := (hb2.block _ (by simp <;> omega)).trans ((alOld (by simp <;> omega)).trans (alAt (by simp <;> omega))); have HZ2 : Hid (w2.heap[w.heap.size + 1 + 1]? = some (.cells #[.int .i64 0, .slice none 0 0] 29 (0, 0))) := (hb2.block _ (by simp <;> omega)).trans (alAt (by simp <;> omega)); obtain ⟨c0, c1, f0, f1⟩ := cells2 HX2.out; obtain ⟨⟨e0, e1, e2, e3, e4, e5⟩, _⟩ := cell6 HY2.out; obtain ⟨g0, g1, k0, k1⟩ := cells2 HZ2.out; have hz := hLt HZ2.out; clear hb2))
  obtain ⟨T, hT⟩ : ∃ T, T = w.heap.size := ⟨_, rfl⟩
  have HT : Hid (T = w.heap.size) := hT
  rw [← hT] at HX2 HY2 HZ2 ⊢
  have HG0 : Hid (Gr3 w T (.cells #[.int .i64 lim, .slice (some ⟨gb, 0, none⟩) n cap] 29 (0, 0)) (.cells #[.int .i64 x.t, .int .i64 x.nd, .string x.v, .int .i64 x.fr, .int .i64 x.sq, .bool false] 34 (0, 0)) (.cells #[.int .i64 0, .slice none 0 0] 29 (0, 0)) w2 (.slice none 0 0) []) := Gr3.start HB2.out HX2.out HY2.out HZ2.out
  clear hT c0 c1 f0 f1 e0 e1 e2 e3 e4 e5 g0 g1 k0 k1 hz HX2 HY2 HZ2 HB2 HF
  go_loopw [8, 6, 7] (fun s8 s6 s7 W => ∃ (i m : Nat) (ao2 : Option Addr) (c : Nat) (acc : List Ev) (d : Bool), i ≤ n ∧ m ≤ i + 1 ∧ s8 = .int .i64 i ∧ s6 = .slice ao2 m c ∧ s7 = .bool d ∧ Hid (Gr3 w T (.cells #[.int .i64 lim, .slice (some ⟨gb, 0, none⟩) n cap] 29 (0, 0)) (.cells #[.int .i64 x.t, .int .i64 x.nd, .string x.v, .int .i64 x.fr, .int .i64 x.sq, .bool false] 34 (0, 0)) (.cells #[.int .i64 0, .slice none 0 0] 29 (0, 0)) W (.slice ao2 m c) acc) ∧ Hid (m = acc.length) ∧ Hid (Pi x s i acc d)) (fun s8 s6 s7 W => n - (intOf s8).toNat)
  case atStart => exact ⟨0, 0, none, 0, [], false, Nat.zero_le _, by omega, rfl, rfl, rfl, HG0.out, rfl, Pi.start x s⟩
  case round =>
    clear HG0
    obtain ⟨i, m, ao2, c, acc, d, hi, hmi, rfl, rfl, rfl, HG, HLN, HPi⟩ := hrel
    obtain ⟨c0, c1, f0, f1⟩ := cells2 HG.out.x
    obtain ⟨⟨e0, e1, e2, e3, e4, e5⟩, _⟩ := cell6 HG.out.y
    obtain ⟨g0, g1, k0, k1⟩ := cells2 HG.out.z
    have lz := hLt HG.out.z
    by_cases hlt : i < n
    · have hl : i < s.length := by have := HN.out; omega
      obtain ⟨a0, a1, a2, a3, a4, a5⟩ := (HR.out.at_ (HG.out.b.block gb HR.out.lt)).cells i hl
      have i1 : (0 : Int) ≤ (i : Int) := by omega
      have i2 : (i : Int) < (n : Int) := by omega
      have HY : Hid (g s i = g s i) := rfl
      obtain ⟨y, hy⟩ : ∃ y, y = g s i := ⟨_, rfl⟩
      rw [← hy] at a0 a1 a2 a3 a4 a5
      have Hy : Hid (y = g s i) := hy
      clear hy HY
      cases d with
      | true =>
        go_wp2
        go_quiet (fail)
        go_wp2_with (first
          | (at_builtin; refine wpList_append_own_at _ rfl _ _ 27 rfl (T + 3) 34 i0 _ 6 56 Try.underlying27 h1 h2 h3 h4 rfl (by decide) (.slice ao2 (m) c) (m) (evs (acc)) rfl (by have hh := HG.out.a; unfold EvS at hh; rw [← HLN.out] at hh; exact World.ownsRow.alloc (w := wr.drewN nq) hh _) ⟨wr.heap.size, 0, none⟩ 1 1 (evC y) rfl rfl (new6 _ y _ _ rfl) (one6 y) (by unfold maxLen; omega) (by omega) (by have := hLt HG.out.z; simp <;> omega) ?_; intro v9 w9 hown9 hgrow9 hnil9 hloc9; obtain ⟨g9, cap9, rfl⟩ := own_slice1 hown9; skip))
        have HG9 : Hid (Gr3 w T (.cells #[.int .i64 lim, .slice (some ⟨gb, 0, none⟩) n cap] 29 (0, 0)) (.cells #[.int .i64 x.t, .int .i64 x.nd, .string x.v, .int .i64 x.fr, .int .i64 x.sq, .bool false] 34 (0, 0)) (.cells #[.int .i64 0, .slice none 0 0] 29 (0, 0)) w9 (.slice (some ⟨g9, 0, none⟩) (m + 1) cap9) (acc ++ [y])) := (HG.out.up (belDN (Below.refl _ wr) nq)).grow HT.out HLN.out hown9 hgrow9
        clear hown9 hgrow9 hnil9 hloc9
        go_roundw
        case rel => exact ⟨i + 1, m + 1, _, cap9, acc ++ [y], true, hlt, by omega, by go_num, rfl, rfl, HG9.out, by rw [List.length_append, ← HLN.out]; rfl, by rw [Hy.out]; exact HPi.out.behind hl⟩
        case measure => simp [intOf]; omega
      | false =>
        have HA : Hid (Calls Try.prog 30 #[.agg #[.int .i64 x.t, .int .i64 x.nd, .string x.v, .int .i64 x.fr, .int .i64 x.sq, .bool false], .agg #[.int .i64 y.t, .int .i64 y.nd, .string y.v, .int .i64 y.fr, .int .i64 y.sq, .bool y.an]] wr.drew fun e w' => e = .returned (.bool (decide (lt x y))) ∧ Below wr.drew.heap.size wr.drew w') := by
          have k := rAhead_c x y wr.drew
          rw [HAn.out] at k
          exact k
        generalize hdd : decide (lt x y) = dd at HA
        have HD : Hid (decide (lt x y) = dd) := hdd
        clear hdd
        have hgl : gb < wr.heap.size := Nat.lt_of_lt_of_le HR.out.lt HG.out.b.size
        go_wp2
        go_region_held (fun w' => w'.cell? ⟨T, 1, none⟩ = some (.slice (some ⟨gb, 0, none⟩) n cap) ∧ w'.cell? ⟨T + 1, 0, none⟩ = some (.int .i64 x.t) ∧ w'.cell? ⟨T + 1, 1, none⟩ = some (.int .i64 x.nd) ∧ w'.cell? ⟨T + 1, 2, none⟩ = some (.string x.v) ∧ w'.cell? ⟨T + 1, 3, none⟩ = some (.int .i64 x.fr) ∧ w'.cell? ⟨T + 1, 4, none⟩ = some (.int .i64 x.sq) ∧ w'.cell? ⟨T + 1, 5, none⟩ = some (.bool false) ∧ w'.cell? ⟨gb, i * 6, none⟩ = some (.int .i64 y.t) ∧ w'.cell? ⟨gb, i * 6 + 1, none⟩ = some (.int .i64 y.nd) ∧ w'.cell? ⟨gb, i * 6 + 2, none⟩ = some (.string y.v) ∧ w'.cell? ⟨gb, i * 6 + 3, none⟩ = some (.int .i64 y.fr) ∧ w'.cell? ⟨gb, i * 6 + 4, none⟩ = some (.int .i64 y.sq) ∧ w'.cell? ⟨gb, i * 6 + 5, none⟩ = some (.bool y.an)) (go_keep) (first
          | (go_at_call 30; refine HA.out.mono ?_; rintro e w3 ⟨rfl, hb3⟩; have b3 := belW (Below.refl _ _) hb3; have HG3 : Hid (Gr3 w T (.cells #[.int .i64 lim, .slice (some ⟨gb, 0, none⟩) n cap] 29 (0, 0)) (.cells #[.int .i64 x.t, .int .i64 x.nd, .string x.v, .int .i64 x.fr, .int .i64 x.sq, .bool false] 34 (0, 0)) (.cells #[.int .i64 0, .slice none 0 0] 29 (0, 0)) w3 (.slice ao2 m c) acc) := HG.out.up b3; obtain ⟨rc0, rc1, rf0, rf1⟩ := cells2 HG3.out.x; obtain ⟨⟨re0, re1, re2, re3, re4, re5⟩, _⟩ := cell6 HG3.out.y; obtain ⟨rg0, rg1, rk0, rk1⟩ := cells2 HG3.out.z; have rlz := hLt HG3.out.z; obtain ⟨ra0, ra1, ra2, ra3, ra4, ra5⟩ := (HR.out.at_ (HG3.out.b.block gb HR.out.lt)).cells i hl; rw [← Hy.out] at ra0 ra1 ra2 ra3 ra4 ra5))
        all_goals (
          clear a0 a1 a2 a3 a4 a5 c0 c1 f0 f1 e0 e1 e2 e3 e4 e5 g0 g1 k0 k1 hb3 b3
          cases dd with
          | false =>
            go_wp2_with (first
              | (at_builtin; refine wpList_append_own_at _ rfl _ _ 27 rfl (T + 3) 34 i0 _ 6 56 Try.underlying27 h1 h2 h3 h4 rfl (by decide) (.slice ao2 (m) c) (m) (evs (acc)) rfl (by have hh := HG3.out.a; unfold EvS at hh; rw [← HLN.out] at hh; exact hh.alloc _) ⟨w3.heap.size, 0, none⟩ 1 1 (evC y) rfl rfl (new6 _ y _ _ rfl) (one6 y) (by unfold maxLen; omega) (by omega) (by have := hLt HG3.out.z; simp <;> omega) ?_; intro v9 w9 hown9 hgrow9 hnil9 hloc9; obtain ⟨g9, cap9, rfl⟩ := own_slice1 hown9; skip))
            have HG9 : Hid (Gr3 w T (.cells #[.int .i64 lim, .slice (some ⟨gb, 0, none⟩) n cap] 29 (0, 0)) (.cells #[.int .i64 x.t, .int .i64 x.nd, .string x.v, .int .i64 x.fr, .int .i64 x.sq, .bool false] 34 (0, 0)) (.cells #[.int .i64 0, .slice none 0 0] 29 (0, 0)) w9 (.slice (some ⟨g9, 0, none⟩) (m + 1) cap9) (acc ++ [y])) := HG3.out.grow HT.out HLN.out hown9 hgrow9
            clear hown9 hgrow9 hnil9 hloc9
            go_roundw
            case rel => exact ⟨i + 1, m + 1, _, cap9, acc ++ [y], false, hlt, by omega, by go_num, rfl, rfl, HG9.out, by rw [List.length_append, ← HLN.out]; rfl, by rw [Hy.out]; exact HPi.out.over hl (by have := HD.out; rw [← Hy.out]; exact of_decide_eq_false this)⟩
            case measure => simp [intOf]; omega
          | true =>
            go_wp2_with (first
              | (have hg := HG9; at_builtin; refine wpList_append_own_at _ rfl _ _ 27 rfl (T + 3) 34 i0 _ 6 56 Try.underlying27 h1 h2 h3 h4 rfl (by decide) (.slice (some ⟨g9, 0, none⟩) (m + 1) cap9) (m + 1) (evs (acc ++ [x])) rfl (by have hh := HG9.out.a; unfold EvS at hh; rw [← HLN9.out] at hh; exact hh.alloc _) ⟨w9.heap.size, 0, none⟩ 1 1 (evC y) rfl rfl (new6 _ y _ _ rfl) (one6 y) (by unfold maxLen; omega) (by omega) (by have := hLt HG9.out.z; simp <;> omega) ?_; intro v8 w8 hown8 hgrow8 hnil8 hloc8; obtain ⟨g8, cap8, rfl⟩ := own_slice1 hown8)
              | (at_builtin; refine wpList_append_own_at _ rfl _ _ 27 rfl (T + 3) 34 i0 _ 6 56 Try.underlying27 h1 h2 h3 h4 rfl (by decide) (.slice ao2 (m) c) (m) (evs (acc)) rfl (by have hh := HG3.out.a; unfold EvS at hh; rw [← HLN.out] at hh; exact hh.alloc _) ⟨w3.heap.size, 0, none⟩ 1 1 (evC x) rfl rfl (new6f _ x _ _ rfl HAn.out) (one6 x) (by unfold maxLen; omega) (by omega) (by have := hLt HG3.out.z; simp <;> omega) ?_; intro v9 w9 hown9 hgrow9 hnil9 hloc9; obtain ⟨g9, cap9, rfl⟩ := own_slice1 hown9; have HG9 : Hid (Gr3 w T (.cells #[.int .i64 lim, .slice (some ⟨gb, 0, none⟩) n cap] 29 (0, 0)) (.cells #[.int .i64 x.t, .int .i64 x.nd, .string x.v, .int .i64 x.fr, .int .i64 x.sq, .bool false] 34 (0, 0)) (.cells #[.int .i64 0, .slice none 0 0] 29 (0, 0)) w9 (.slice (some ⟨g9, 0, none⟩) (m + 1) cap9) (acc ++ [x])) := HG3.out.grow HT.out HLN.out hown9 hgrow9; have HLN9 : Hid (m + 1 = (acc ++ [x]).length) := (by show _ = _; rw [List.length_append, ← HLN.out]; rfl); clear hown9 hgrow9 hnil9 hloc9; obtain ⟨tc0, tc1, tf0, tf1⟩ := cells2 HG9.out.x; obtain ⟨⟨te0, te1, te2, te3, te4, te5⟩, _⟩ := cell6 HG9.out.y; obtain ⟨tg0, tg1, tk0, tk1⟩ := cells2 HG9.out.z; have tlz := hLt HG9.out.z; obtain ⟨ta0, ta1, ta2, ta3, ta4, ta5⟩ := (HR.out.at_ (HG9.out.b.block gb HR.out.lt)).cells i hl; rw [← Hy.out] at ta0 ta1 ta2 ta3 ta4 ta5))
            have HG8 : Hid (Gr3 w T (.cells #[.int .i64 lim, .slice (some ⟨gb, 0, none⟩) n cap] 29 (0, 0)) (.cells #[.int .i64 x.t, .int .i64 x.nd, .string x.v, .int .i64 x.fr, .int .i64 x.sq, .bool false] 34 (0, 0)) (.cells #[.int .i64 0, .slice none 0 0] 29 (0, 0)) w8 (.slice (some ⟨g8, 0, none⟩) (m + 1 + 1) cap8) (acc ++ [x] ++ [y])) := HG9.out.grow HT.out HLN9.out hown8 hgrow8
            clear hown8 hgrow8 hnil8 hloc8
            go_roundw
            case rel => exact ⟨i + 1, m + 1 + 1, _, cap8, acc ++ [x] ++ [y], true, hlt, by have h7 := HPi.out.short; have h8 := HLN.out; omega, by go_num, rfl, rfl, HG8.out, by rw [List.length_append, ← HLN9.out]; rfl, by rw [Hy.out]; exact HPi.out.here hl (by have := HD.out; rw [← Hy.out]; exact of_decide_eq_true this)⟩
            case measure => simp [intOf]; omega)
    · obtain rfl : n = i := by omega
      have HPe : Hid (Pi x s s.length acc d) := by have := HPi.out; rw [HN.out] at this; exact this
      cases d with
      | true =>
        go_wp2
        refine bodyPost_ret (v := .tuple #[.agg #[.int .i64 lim, .slice ao2 m c], .int .i64 0]) (by simp [results, Try.results22, go_sem, g0, g1]) rfl ?_
        have hE := gr3_end (lim := lim) HT.out HG.out
        exact ⟨_, acc, rfl, hE.1, HPe.out.done, hE.2⟩
      | false =>
        go_wp2_with (first
          | (at_builtin; refine wpList_append_own_at _ rfl _ _ 27 rfl (T + 3) 34 i0 _ 6 56 Try.underlying27 h1 h2 h3 h4 rfl (by decide) (.slice ao2 (m) c) (m) (evs (acc)) rfl (by have hh := HG.out.a; unfold EvS at hh; rw [← HLN.out] at hh; exact hh.alloc _) ⟨wr.heap.size, 0, none⟩ 1 1 (evC x) rfl rfl (new6f _ x _ _ rfl HAn.out) (one6 x) (by unfold maxLen; omega) (by omega) (by have := hLt HG.out.z; simp <;> omega) ?_; intro v9 w9 hown9 hgrow9 hnil9 hloc9; obtain ⟨g9, cap9, rfl⟩ := own_slice1 hown9; have HG9 : Hid (Gr3 w T (.cells #[.int .i64 lim, .slice (some ⟨gb, 0, none⟩) n cap] 29 (0, 0)) (.cells #[.int .i64 x.t, .int .i64 x.nd, .string x.v, .int .i64 x.fr, .int .i64 x.sq, .bool false] 34 (0, 0)) (.cells #[.int .i64 0, .slice none 0 0] 29 (0, 0)) w9 (.slice (some ⟨g9, 0, none⟩) (m + 1) cap9) (acc ++ [x])) := HG.out.grow HT.out HLN.out hown9 hgrow9; clear hown9 hgrow9 hnil9 hloc9; obtain ⟨tc0, tc1, tf0, tf1⟩ := cells2 HG9.out.x; obtain ⟨⟨te0, te1, te2, te3, te4, te5⟩, _⟩ := cell6 HG9.out.y; obtain ⟨tg0, tg1, tk0, tk1⟩ := cells2 HG9.out.z; have tlz := hLt HG9.out.z))
        refine bodyPost_ret (v := .tuple #[.agg #[.int .i64 lim, .slice (some ⟨g9, 0, none⟩) (m + 1) cap9], .int .i64 0]) (by simp [results, Try.results22, go_sem, tg0, tg1]) rfl ?_
        have hE := gr3_end (lim := lim) HT.out HG9.out
        exact ⟨_, acc ++ [x], rfl, hE.1, HPe.out.last, hE.2⟩
set_option maxHeartbeats 4000000 in
theorem rPut_ok0 (lim : Int) (s : List Ev) (x : Ev) (w : World) (hs : s = []) (hx : 0 ≤ x.t) (ha : x.an = false) (ht : x.t ≤ 4611686018427387903) (hf : 0 < lim) :
    Calls Try.prog 22 #[.agg #[.int .i64 lim, .slice none 0 0], .agg #[.int .i64 x.t, .int .i64 x.nd, .string x.v, .int .i64 x.fr, .int .i64 x.sq, .bool x.an]] w fun e w' => ∃ v' f, e = .returned (.tuple #[.agg #[.int .i64 lim, v'], .int .i64 0]) ∧ Hid (EvS w.heap.size w' v' f) ∧ Hid (Ins x s f) ∧ Below w.heap.size w w' := by
  have h : EvS 0 w (.slice none 0 0) s := by rw [hs]; exact World.ownsRow_nil _ _ _ _
  have hn : s.length ≤ 4096 := by rw [hs]; simp
  have HN : Hid (0 = s.length) := by show 0 = s.length; rw [hs]; rfl
  have HAn : Hid (x.an = false) := ha
  have HH : Hid (hasK s x.fr x.sq = false) := by show hasK s x.fr x.sq = false; rw [hs]; rfl
  have HF : Hid (∀ W, Below w.heap.size w W → Calls Try.prog 29 #[.agg #[.int .i64 lim, .slice none 0 0], .int .i64 x.fr, .int .i64 x.sq] W fun e w' => ∃ k, e = .returned (.int .i64 k) ∧ Hid (Fd s x.fr x.sq k) ∧ Below W.heap.size W w') := fun W hW => rFind_c 0 lim _ s x.fr x.sq W (h.below hW) (by omega)
  have d1 : decide (x.t < 0) = false := decide_eq_false (by omega)
  clear h hn hs
  have d2 : decide (4611686018427387903 < x.t) = false := decide_eq_false (by omega)
  have d3 : decide (lim ≤ (0 : Int)) = false := decide_eq_false (by omega)
  rw [ha]
  obtain ⟨i0, h1, h2, h3, h4⟩ := infoEv
  go_enter Try.func22, Try.ntmps22
  go_wp2_with (first
    | (go_at_call 29; refine (HF.out _ (belA (belA (belA (Below.refl _ _) _) _) _)).mono ?_; rintro e w2 ⟨k, rfl, HK, hb2⟩; have q1 : decide (0 ≤ k) = false := (by rw [HK.out.no HH.out]; rfl); have HB2 : Hid (Below w.heap.size w w2) := belT (belA (belA (belA (Below.refl _ _) _) _) _) hb2; have HX2 : Hid (w2.heap[w.heap.size]? = some (.cells #[.int .i64 lim, .slice none 0 0] 29 (0, 0))) := (hb2.block _ (by simp <;> omega)).trans ((alOld (by simp <;> omega)).trans ((alOld (by simp <;> omega)).trans (alAt rfl))); have HY2 : Hid (w2.heap[w.heap.size + 1]? = some (.cells #[.int .i64 x.t, .int .i64 x.nd, .string x.v, .int .i64 x.fr, .int .i64 x.sq, .bool false] 34 (0, 0))) := (hb2.block _ (by simp <;> omega)).trans ((alOld (by simp <;> omega)).trans (alAt (by simp <;> omega))); have HZ2 : Hid (w2.heap[w.heap.size + 1 + 1]? = some (.cells #[.int .i64 0, .slice none 0 0] 29 (0, 0))) := (hb2.block _ (by simp <;> omega)).trans (alAt (by simp <;> omega)); obtain ⟨c0, c1, f0, f1⟩ := cells2 HX2.out; obtain ⟨⟨e0, e1, e2, e3, e4, e5⟩, _⟩ := cell6 HY2.out; obtain ⟨g0, g1, k0, k1⟩ := cells2 HZ2.out; have hz := hLt HZ2.out; clear hb2))
  obtain ⟨T, hT⟩ : ∃ T, T = w.heap.size := ⟨_, rfl⟩
  have HT : Hid (T = w.heap.size) := hT
  rw [← hT] at HX2 HY2 HZ2 ⊢
  have HG0 : Hid (Gr3 w T (.cells #[.int .i64 lim, .slice none 0 0] 29 (0, 0)) (.cells #[.int .i64 x.t, .int .i64 x.nd, .string x.v, .int .i64 x.fr, .int .i64 x.sq, .bool false] 34 (0, 0)) (.cells #[.int .i64 0, .slice none 0 0] 29 (0, 0)) w2 (.slice none 0 0) []) := Gr3.start HB2.out HX2.out HY2.out HZ2.out
  clear hT c0 c1 f0 f1 e0 e1 e2 e3 e4 e5 g0 g1 k0 k1 hz HX2 HY2 HZ2 HB2 HF
  go_loopw [8, 6, 7] (fun s8 s6 s7 W => ∃ (i m : Nat) (ao2 : Option Addr) (c : Nat) (acc : List Ev) (d : Bool), i ≤ 0 ∧ m ≤ i + 1 ∧ s8 = .int .i64 i ∧ s6 = .slice ao2 m c ∧ s7 = .bool d ∧ Hid (Gr3 w T (.cells #[.int .i64 lim, .slice none 0 0] 29 (0, 0)) (.cells #[.int .i64 x.t, .int .i64 x.nd, .string x.v, .int .i64 x.fr, .int .i64 x.sq, .bool false] 34 (0, 0)) (.cells #[.int .i64 0, .slice none 0 0] 29 (0, 0)) W (.slice ao2 m c) acc) ∧ Hid (m = acc.length) ∧ Hid (Pi x s i acc d)) (fun s8 s6 s7 W => 0 - (intOf s8).toNat)
  case atStart => exact ⟨0, 0, none, 0, [], false, Nat.zero_le _, by omega, rfl, rfl, rfl, HG0.out, rfl, Pi.start x s⟩
  case round =>
    clear HG0
    obtain ⟨i, m, ao2, c, acc, d, hi, hmi, rfl, rfl, rfl, HG, HLN, HPi⟩ := hrel
    obtain ⟨c0, c1, f0, f1⟩ := cells2 HG.out.x
    obtain ⟨⟨e0, e1, e2, e3, e4, e5⟩, _⟩ := cell6 HG.out.y
    obtain ⟨g0, g1, k0, k1⟩ := cells2 HG.out.z
    have lz := hLt HG.out.z
    by_cases hlt : i < 0
    · omega
    · obtain rfl : 0 = i := by omega
      have HPe : Hid (Pi x s s.length acc d) := by have := HPi.out; rw [HN.out] at this; exact this
      cases d with
      | true =>
        go_wp2
        refine bodyPost_ret (v := .tuple #[.agg #[.int .i64 lim, .slice ao2 m c], .int .i64 0]) (by simp [results, Try.results22, go_sem, g0, g1]) rfl ?_
        have hE := gr3_end (lim := lim) HT.out HG.out
        exact ⟨_, acc, rfl, hE.1, HPe.out.done, hE.2⟩
      | false =>
        go_wp2_with (first
          | (at_builtin; refine wpList_append_own_at _ rfl _ _ 27 rfl (T + 3) 34 i0 _ 6 56 Try.underlying27 h1 h2 h3 h4 rfl (by decide) (.slice ao2 (m) c) (m) (evs (acc)) rfl (by have hh := HG.out.a; unfold EvS at hh; rw [← HLN.out] at hh; exact hh.alloc _) ⟨wr.heap.size, 0, none⟩ 1 1 (evC x) rfl rfl (new6f _ x _ _ rfl HAn.out) (one6 x) (by unfold maxLen; omega) (by omega) (by have := hLt HG.out.z; simp <;> omega) ?_; intro v9 w9 hown9 hgrow9 hnil9 hloc9; obtain ⟨g9, cap9, rfl⟩ := own_slice1 hown9; have HG9 : Hid (Gr3 w T (.cells #[.int .i64 lim, .slice none 0 0] 29 (0, 0)) (.cells #[.int .i64 x.t, .int .i64 x.nd, .string x.v, .int .i64 x.fr, .int .i64 x.sq, .bool false] 34 (0, 0)) (.cells #[.int .i64 0, .slice none 0 0] 29 (0, 0)) w9 (.slice (some ⟨g9, 0, none⟩) (m + 1) cap9) (acc ++ [x])) := HG.out.grow HT.out HLN.out hown9 hgrow9; clear hown9 hgrow9 hnil9 hloc9; obtain ⟨tc0, tc1, tf0, tf1⟩ := cells2 HG9.out.x; obtain ⟨⟨te0, te1, te2, te3, te4, te5⟩, _⟩ := cell6 HG9.out.y; obtain ⟨tg0, tg1, tk0, tk1⟩ := cells2 HG9.out.z; have tlz := hLt HG9.out.z))
        refine bodyPost_ret (v := .tuple #[.agg #[.int .i64 lim, .slice (some ⟨g9, 0, none⟩) (m + 1) cap9], .int .i64 0]) (by simp [results, Try.results22, go_sem, tg0, tg1]) rfl ?_
        have hE := gr3_end (lim := lim) HT.out HG9.out
        exact ⟨_, acc ++ [x], rfl, hE.1, HPe.out.last, hE.2⟩
/-- an event that may be put is put in its place -/
theorem rPut_ok {B : Nat} {lim : Int} {v : Value} {s : List Ev} {x : Ev} {w : World} (h : EvS B w v s) (hn : s.length ≤ 4096) (hx : 0 ≤ x.t) (ha : x.an = false) (hk : hasK s x.fr x.sq = false) (ht : x.t ≤ 4611686018427387903) (hf : (s.length : Int) < lim) :
    Calls Try.prog 22 #[.agg #[.int .i64 lim, v], .agg #[.int .i64 x.t, .int .i64 x.nd, .string x.v, .int .i64 x.fr, .int .i64 x.sq, .bool x.an]] w fun e w' => ∃ v' f, e = .returned (.tuple #[.agg #[.int .i64 lim, v'], .int .i64 0]) ∧ Hid (EvS w.heap.size w' v' f) ∧ Hid (Ins x s f) ∧ Below w.heap.size w w' := by
  rcases h.shape with ⟨rfl, hs⟩ | ⟨gb, cap, rfl, hr⟩
  · exact rPut_ok0 lim s x w hs hx ha ht (by rw [hs] at hf; exact hf)
  · exact rPut_ok1 B lim gb s.length cap s x w hr rfl hn hx ha hk ht hf
/-- one that may not be put is refused -/
theorem rPut_no {B : Nat} {lim : Int} {v : Value} {s : List Ev} {x : Ev} {w : World} (h : EvS B w v s) (hn : s.length ≤ 4096) (he : putE s lim x ≠ 0) :
    Calls Try.prog 22 #[.agg #[.int .i64 lim, v], .agg #[.int .i64 x.t, .int .i64 x.nd, .string x.v, .int .i64 x.fr, .int .i64 x.sq, .bool x.an]] w fun e w' => e = .returned (.tuple #[.agg #[.int .i64 lim, v], .int .i64 (putE s lim x)]) ∧ Below w.heap.size w w' := by
  obtain ⟨ao, cap, rfl⟩ := h.slice
  unfold putE at he ⊢
  by_cases h1 : x.t < 0
  · rw [if_pos (Or.inl h1)]; exact rPut_neg B lim ao _ cap s x w h hn h1
  · by_cases h2 : x.an = true
    · rw [if_pos (Or.inr (Or.inl h2))]; exact rPut_anti B lim ao _ cap s x w h hn (by omega) h2
    · have h2' : x.an = false := by simpa using h2
      by_cases h3 : hasK s x.fr x.sq = true
      · rw [if_pos (Or.inr (Or.inr h3))]; exact rPut_has B lim ao _ cap s x w h hn (by omega) h2' h3
      · have h3' : hasK s x.fr x.sq = false := by simpa using h3
        have hc : ¬ (x.t < 0 ∨ x.an = true ∨ hasK s x.fr x.sq = true) := fun k => by rcases k with k | k | k; exact h1 k; exact h2 k; exact h3 k
        rw [if_neg hc] at he ⊢
        by_cases h4 : 4611686018427387903 < x.t
        · rw [if_pos h4]; exact rPut_late B lim ao _ cap s x w h hn (by omega) h2' h3' h4
        · rw [if_neg h4] at he ⊢
          by_cases h5 : lim ≤ (s.length : Int)
          · rw [if_pos h5]; exact rPut_full B lim ao _ cap s x w h hn (by omega) h2' h3' (by omega) h5
          · rw [if_neg h5] at he; exact absurd rfl he
/-- so it is for the program's queue -/
theorem put_no {B q : Nat} {lim : Int} {v : Value} {l : List Ev} {x : Ev} {w : World} (h : Qh B q lim w v l) (hn : l.length ≤ 4096) (he : putE l lim x ≠ 0) :
    Calls Try.prog 15 #[.pointer (some ⟨q, 0, none⟩), .agg #[.int .i64 x.t, .int .i64 x.nd, .string x.v, .int .i64 x.fr, .int .i64 x.sq, .bool x.an]] w fun e w' => e = .returned (.int .i64 (putE l lim x)) ∧ Below w.heap.size w w' := by
  unfold putE at he ⊢
  by_cases h1 : x.t < 0
  · rw [if_pos (Or.inl h1)]; exact put_neg B q lim v l x w h h1
  · by_cases h2 : x.an = true
    · rw [if_pos (Or.inr (Or.inl h2))]; exact put_anti B q lim v l x w h (by omega) h2
    · have h2' : x.an = false := by simpa using h2
      by_cases h3 : hasK l x.fr x.sq = true
      · rw [if_pos (Or.inr (Or.inr h3))]; exact put_has B q lim v l x w h (by omega) h2' hn h3
      · have h3' : hasK l x.fr x.sq = false := by simpa using h3
        have hc : ¬ (x.t < 0 ∨ x.an = true ∨ hasK l x.fr x.sq = true) := fun k => by rcases k with k | k | k; exact h1 k; exact h2 k; exact h3 k
        rw [if_neg hc] at he ⊢
        by_cases h4 : 4611686018427387903 < x.t
        · rw [if_pos h4]; exact put_late B q lim v l x w h (by omega) h2' hn h3' h4
        · rw [if_neg h4] at he ⊢
          by_cases h5 : lim ≤ (l.length : Int)
          · rw [if_pos h5]; exact put_full B q lim v l x w h (by omega) h2' hn h3' (by omega) h5
          · rw [if_neg h5] at he; exact absurd rfl he
theorem putE_zero {l : List Ev} {lim : Int} {x : Ev} (h : putE l lim x = 0) : 0 ≤ x.t ∧ x.an = false ∧ hasK l x.fr x.sq = false ∧ x.t ≤ 4611686018427387903 ∧ (l.length : Int) < lim := by
  unfold putE at h
  split at h
  · cases h
  · rename_i hc
    split at h
    · cases h
    · split at h
      · cases h
      · refine ⟨by rcases Int.lt_or_le x.t 0 with k | k; exact absurd (Or.inl k) hc; exact k, ?_, ?_, by omega, by omega⟩
        · cases e : x.an with
          | false => rfl
          | true => exact absurd (Or.inr (Or.inl e)) hc
        · cases e : hasK l x.fr x.sq with
          | false => rfl
          | true => exact absurd (Or.inr (Or.inr e)) hc
theorem putE_perm {l s : List Ev} (h : l.Perm s) (lim : Int) (x : Ev) : putE l lim x = putE s lim x := by unfold putE; rw [hasK_perm h, h.length_eq]
end Go.Proofs.Ytfjkhcpneehdjaa
